/- LexStrings: the walk, with single quotes. -/
import Derived.Test.YtfejompnjaifmaaDoorLs
namespace Go.Proofs.YtfejompnjaifmaaDoor
open Go Go.RowKit
set_option maxHeartbeats 40000000 in
set_option maxRecDepth 100000 in
theorem strings_law_true (a : Option Addr) (n cap : Nat) (l : List Nat) (hlt : ∀ u ∈ l, u < 65536) (w : World) (hG : Gl w) (hN : W.Nums .u16 w a n l) :
    Calls Tryd.prog 4 #[.slice a n cap, .bool true] w (BelPost w (.bool true)) := by
  have HG := Veil.mk hG
  have HN := Veil.mk hN
  have HLT := Veil.mk hlt
  have HFT : Veil (∀ w, Gl w → Calls Tryd.prog 6 #[] w (BelPost w (.bool true))) := ⟨fit_any⟩
  obtain ⟨iI, hiI, hiI0, hiI1, hiI2⟩ := info_parts W.Tryd.info3
  clear hG hN hlt
  by_cases hbig : 500 < n
  · have hbig' : (500 : Int) < (n : Int) := by omega
    go_enter Tryd.func4, Tryd.ntmps4
    go_wp2_with (first | (go_at_call 6; ((with_reducible refine (HFT.out _ HG.out).mono ?_); rintro e9 w1 ⟨rfl, hb1⟩; have HB1 := Veil.mk hb1; clear hb1)))
    go_ret
    exact ⟨rfl, HB1.out⟩
  · have hbig' : ¬ (500 : Int) < (n : Int) := by omega
    obtain ⟨q, hq⟩ : ∃ q : UInt8, q = if true then 39 else 34 := ⟨_, rfl⟩
    go_enter Tryd.func4, Tryd.ntmps4
    go_upto_region 5 with (first | (go_at_call 6; ((with_reducible refine (HFT.out _ HG.out).mono ?_); rintro e9 w1 ⟨rfl, hb1⟩; have HB1 := Veil.mk hb1; clear hb1)))
    have HG1 : Veil (Gl w1) := ⟨HG.out.on HB1.out⟩
    have HN1 : Veil (W.Nums .u16 w1 a n l) := ⟨HN.out.on HB1.out⟩
    have hqq : q = 34 ∨ q = 39 := by rw [hq]; simp
    have HQQ := Veil.mk hqq
    clear hqq
    have hw0 : w1.ownsRow w1.heap.size 3 1 (.slice none 0 0) 0 (W.numC []) := ⟨by simp [W.numC], .inl ⟨rfl, rfl⟩⟩
    obtain rfl : q = 39 := hq
    go_upto_region 11 with (fail)
    go_loopw [6, 7, 22] (fun sv wv i wr => ∃ k : Nat, k ≤ n ∧ i = .int .i64 (k : Int) ∧ sv = .string (sB 39 true (l.take k)) ∧ wr.ownsRow w1.heap.size 3 1 wv k (W.numC (l.take k)) ∧ Veil (Below w1.heap.size w1 wr)) (fun _ _ i _ => n - (intOf i).toNat)
    case atStart => exact ⟨0, Nat.zero_le _, rfl, rfl, hw0, ⟨Below.refl _ _⟩⟩
    case round =>
      obtain ⟨k, hk, rfl, rfl, hown, HBE⟩ := hrel
      have hk0 : (0 : Int) ≤ (k : Int) := by omega
      by_cases hkn : k < n
      · have hkn' : (k : Int) < (n : Int) := by omega
        obtain ⟨b, o, rfl, hbl, hc⟩ := HN1.out.2 (by omega)
        have hcell : wr.cell? ⟨b, o + k, none⟩ = some (.int .u16 ((l[k]?.getD 0 : Nat) : Int)) := by rw [HBE.out.cell (p := ⟨b, o + k, none⟩) hbl]; exact hc k hkn
        have hll := HN1.out.1
        obtain ⟨u, hu⟩ : ∃ u, l[k]?.getD 0 = u := ⟨_, rfl⟩
        have hu6 : u < 65536 := by rw [← hu, List.getElem?_eq_getElem (by omega)]; exact HLT.out _ (List.getElem_mem _)
        have HTK : Veil (l.take (k + 1) = l.take k ++ [u]) := ⟨by rw [List.take_add_one, ← hu, List.getElem?_eq_getElem (by omega)]; rfl⟩
        rw [hu] at hcell
        obtain ⟨lk, hlk⟩ : ∃ lk, l.take k = lk := ⟨_, rfl⟩
        have hlkl : lk.length ≤ k := by rw [← hlk]; exact List.length_take_le ..
        have hsb : (sB 39 true lk).size ≤ 4000 := by
          rw [sB_size]
          have := pcsL_len true lk
          omega
        rw [hlk] at hown HTK ⊢
        clear hc hu hlk
        go_upto_region 16 with (at_builtin; refine wpList_append_lies _ rfl _ _ 22 rfl w1.heap.size 3 iI (.int .i64 0) 1 8 Tryd.underlying22 hiI hiI0 hiI1 hiI2 rfl (by decide) _ _ _ rfl (hown.alloc _) ⟨wr.heap.size, 0, none⟩ 1 1 [.int .i64 (u : Int)] rfl rfl (news_at _ _ rfl _ _) (by simp [Value.oneCell']) (by decide) (by unfold maxLen; omega) (by omega) (by have := HBE.out.size; simp; omega) _ rfl ?_; intro gg cap' w3 hown' hgrow3 hblk hg3; have hbe3 : Below w1.heap.size w1 w3 := (HBE.out.alloc HBE.out.size _).grown hgrow3 (by have := HBE.out.size; simp; omega) (fun k hk => (hown.lt k hk).1); refine Hid.out ?_)
        have HO : Veil (w3.ownsRow w1.heap.size 3 1 (.slice (some ⟨gg, 0, none⟩) (k + 1) cap') (k + 1) (W.numC (lk ++ [u]))) := ⟨by rw [W.numC_append]; exact hown'⟩
        have HBE3 := Veil.mk hbe3
        clear hown hown' hgrow3 hblk hg3 hbe3 hbl hcell
        refine Lib.hid ?_
        have REL : ∀ (sv : Value) (W' : World), sv = .string (sB 39 true (lk ++ [u])) → Below w3.heap.size w3 W' → (∃ k' : Nat, k' ≤ n ∧ Value.int .i64 ((k : Int) + 1) = .int .i64 (k' : Int) ∧ sv = .string (sB 39 true (l.take k')) ∧ W'.ownsRow w1.heap.size 3 1 (.slice (some ⟨gg, 0, none⟩) (k + 1) cap') k' (W.numC (l.take k')) ∧ Veil (Below w1.heap.size w1 W')) ∧ n - (intOf (Value.int .i64 ((k : Int) + 1))).toNat < n - (intOf (Value.int .i64 (k : Int))).toNat := fun sv W' h hb => ⟨⟨k + 1, by omega, by go_num, by rw [h, HTK.out], by rw [HTK.out]; exact own_touch HO.out (Touch.of_below (S := fun _ => False) hb) (fun _ _ h => h), ⟨HBE3.out.trans (hb.mono HBE3.out.size)⟩⟩, by simp [intOf]; omega⟩
        have HREL := Veil.mk REL
        clear REL
        by_cases h3 : u = 39 ∨ u = 34 ∨ u = 92
        · rcases h3 with rfl | rfl | rfl
          · have HAD := Veil.mk (sB_add 39 true lk 39 [92, 39] rfl)
            have hcv : Sem.run Tryd.prog (convert 37 9 (.slice (some ⟨w3.heap.size, 0, none⟩) 1 1)) (w3.alloc (.cells #[.int .u8 39] 5)) = .ok (.string ⟨#[39]⟩) (w3.alloc (.cells #[.int .u8 39] 5)) := conv_one w3 39
            go_wp2
            exact HREL.out _ _ (by rw [← HAD.out]; rfl) ((Below.refl _ _).alloc (Nat.le_refl _) _)
          · have HAD := Veil.mk (sB_add 39 true lk 34 [92, 34] rfl)
            have hcv : Sem.run Tryd.prog (convert 37 9 (.slice (some ⟨w3.heap.size, 0, none⟩) 1 1)) (w3.alloc (.cells #[.int .u8 34] 5)) = .ok (.string ⟨#[34]⟩) (w3.alloc (.cells #[.int .u8 34] 5)) := conv_one w3 34
            go_wp2
            exact HREL.out _ _ (by rw [← HAD.out]; rfl) ((Below.refl _ _).alloc (Nat.le_refl _) _)
          · have HAD := Veil.mk (sB_add 39 true lk 92 [92, 92] rfl)
            have hcv : Sem.run Tryd.prog (convert 37 9 (.slice (some ⟨w3.heap.size, 0, none⟩) 1 1)) (w3.alloc (.cells #[.int .u8 92] 5)) = .ok (.string ⟨#[92]⟩) (w3.alloc (.cells #[.int .u8 92] 5)) := conv_one w3 92
            go_wp2
            exact HREL.out _ _ (by rw [← HAD.out]; rfl) ((Below.refl _ _).alloc (Nat.le_refl _) _)
        · by_cases h4 : 32 ≤ u ∧ u < 127
          · have hpc : pcL true u = [UInt8.ofNat u] := by unfold pcL; rw [if_neg (by omega), if_neg h3, if_pos h4]
            have HAD := Veil.mk (sB_add 39 true lk u _ hpc)
            have g0 : ((u : Int) == 10) = false := beq_eq_false_iff_ne.2 (by omega)
            have g1 : ((u : Int) == 39) = false := beq_eq_false_iff_ne.2 (by omega)
            have g2 : ((u : Int) == 34) = false := beq_eq_false_iff_ne.2 (by omega)
            have g3 : ((u : Int) == 92) = false := beq_eq_false_iff_ne.2 (by omega)
            have g4 : (32 : Int) ≤ (u : Int) := by omega
            have g5 : (u : Int) < 127 := by omega
            have e1 : ((UInt8.ofNat u).toNat : Int) = (u : Int) := by rw [UInt8.toNat_ofNat_of_lt' (by show u < 256; omega)]
            have hcv := run_convert_bytes_back (P := Tryd.prog) (w3.alloc (.cells #[.int .u8 (u : Int)] 5)) 37 9 5 ⟨w3.heap.size, 0, none⟩ 1 [UInt8.ofNat u] Tryd.underlying37 Tryd.underlying5 Tryd.underlying9 (fun j hj => by
              have hj0 : j = 0 := by
                have : j < 1 := hj
                omega
              subst hj0
              show _ = some (Value.int .u8 ((UInt8.ofNat u).toNat : Int))
              rw [e1]
              exact news_at w3 _ rfl [.int .u8 (u : Int)] _ 0 _ rfl)
            have hcv : Sem.run Tryd.prog (convert 37 9 (.slice (some ⟨w3.heap.size, 0, none⟩) 1 1)) (w3.alloc (.cells #[.int .u8 (u : Int)] 5)) = .ok (.string ⟨#[UInt8.ofNat u]⟩) (w3.alloc (.cells #[.int .u8 (u : Int)] 5)) := hcv
            clear h3 h4 hpc e1
            go_wp2
            exact HREL.out _ _ (by rw [← HAD.out]) ((Below.refl _ _).alloc (Nat.le_refl _) _)
          · by_cases h10 : u = 10
            · have g0 : ((u : Int) == 10) = true := by rw [h10]; rfl
              clear h10
              obtain ⟨c1, hc1⟩ : ∃ c, hx (u / 4096) = c := ⟨_, rfl⟩
              obtain ⟨c2, hc2⟩ : ∃ c, hx (u / 256 % 16) = c := ⟨_, rfl⟩
              obtain ⟨c3, hc3⟩ : ∃ c, hx (u / 16 % 16) = c := ⟨_, rfl⟩
              obtain ⟨c4, hc4⟩ : ∃ c, hx (u % 16) = c := ⟨_, rfl⟩
              have hpc : pcL true u = [92, 117, c1, c2, c3, c4] := by unfold pcL; rw [if_neg (fun h => Bool.noConfusion h.2), if_neg h3, if_neg h4, hc1, hc2, hc3, hc4]
              have HAD := Veil.mk (sB_add 39 true lk u _ hpc)
              obtain ⟨d2, hd2⟩ : ∃ d, u / 256 % 16 = d := ⟨_, rfl⟩
              obtain ⟨d3, hd3⟩ : ∃ d, u / 16 % 16 = d := ⟨_, rfl⟩
              obtain ⟨d4, hd4⟩ : ∃ d, u % 16 = d := ⟨_, rfl⟩
              have hm2 : bits .and .u16 ((u : Int) / 256) 15 = (d2 : Int) := by rw [mask15 (u / 256) _ (by omega) (by omega), hd2]
              have hm3 : bits .and .u16 ((u : Int) / 16) 15 = (d3 : Int) := by rw [mask15 (u / 16) _ (by omega) (by omega), hd3]
              have hm4 : bits .and .u16 (u : Int) 15 = (d4 : Int) := by rw [mask15 u _ rfl (by omega), hd4]
              have hix1 := idx_run (u / 4096) ((u : Int) / 4096) (by omega) (by omega)
              have hix2 := idx_run d2 d2 rfl (by omega)
              have hix3 := idx_run d3 d3 rfl (by omega)
              have hix4 := idx_run d4 d4 rfl (by omega)
              rw [hc1] at hix1
              rw [hd2] at hc2
              rw [hd3] at hc3
              rw [hd4] at hc4
              rw [hc2] at hix2
              rw [hc3] at hix3
              rw [hc4] at hix4
              have g1 : ((u : Int) == 39) = false := beq_eq_false_iff_ne.2 (by omega)
              have g2 : ((u : Int) == 34) = false := beq_eq_false_iff_ne.2 (by omega)
              have g3 : ((u : Int) == 92) = false := beq_eq_false_iff_ne.2 (by omega)
              clear hpc h3 hc1 hc2 hc3 hc4 hd2 hd3 hd4
              by_cases g4 : (32 : Int) ≤ (u : Int)
              all_goals
                first
                | have g5 : ¬ (u : Int) < 127 := by omega
                | skip
                clear h4
                go_upto_region 15 with (fail)
                have hks : KeepsAll (Is (.string (sB 39 true lk)) :: Is (.string ⟨#[48, 49, 50, 51, 52, 53, 54, 55, 56, 57, 97, 98, 99, 100, 101, 102]⟩) :: Is (.int .u16 (u : Int)) :: Is (.int .u16 ((u : Int) / 4096)) :: Is (.int .u8 (c1.toNat : Int)) :: Is (.string ⟨#[48, 49, 50, 51, 52, 53, 54, 55, 56, 57, 97, 98, 99, 100, 101, 102]⟩) :: Is (.int .u16 (u : Int)) :: Is (.int .u16 ((u : Int) / 256)) :: Is (.int .u16 (d2 : Int)) :: Is (.int .u8 (c2.toNat : Int)) :: Is (.string ⟨#[48, 49, 50, 51, 52, 53, 54, 55, 56, 57, 97, 98, 99, 100, 101, 102]⟩) :: Is (.int .u16 (u : Int)) :: Is (.int .u16 ((u : Int) / 16)) :: Is (.int .u16 (d3 : Int)) :: Is (.int .u8 (c3.toNat : Int)) :: Is (.string ⟨#[48, 49, 50, 51, 52, 53, 54, 55, 56, 57, 97, 98, 99, 100, 101, 102]⟩) :: Is (.int .u16 (u : Int)) :: Is (.int .u16 (d4 : Int)) :: Is (.int .u8 (c4.toNat : Int)) :: (IsRow 5 4 #[.int .u8 (c1.toNat : Int), .int .u8 (c2.toNat : Int), .int .u8 (c3.toNat : Int), .int .u8 (c4.toNat : Int)]) :: Is (.string ⟨#[c1, c2, c3, c4]⟩) :: Is (.string (⟨#[92, 117]⟩ ++ ⟨#[c1, c2, c3, c4]⟩)) :: Is (.string (sB 39 true lk ++ (⟨#[92, 117]⟩ ++ ⟨#[c1, c2, c3, c4]⟩))) :: Is (.string (sB 39 true lk ++ (⟨#[92, 117]⟩ ++ ⟨#[c1, c2, c3, c4]⟩))) :: [] : List (Value → World → Prop)) := ⟨keeps_is _, keeps_is _, keeps_is _, keeps_is _, keeps_is _, keeps_is _, keeps_is _, keeps_is _, keeps_is _, keeps_is _, keeps_is _, keeps_is _, keeps_is _, keeps_is _, keeps_is _, keeps_is _, keeps_is _, keeps_is _, keeps_is _, keeps_row _ _ _, keeps_is _, keeps_is _, keeps_is _, keeps_is _, trivial⟩
                refine wp_region_rf (Is (.string (sB 39 true lk)) :: Is (.string ⟨#[48, 49, 50, 51, 52, 53, 54, 55, 56, 57, 97, 98, 99, 100, 101, 102]⟩) :: Is (.int .u16 (u : Int)) :: Is (.int .u16 ((u : Int) / 4096)) :: Is (.int .u8 (c1.toNat : Int)) :: Is (.string ⟨#[48, 49, 50, 51, 52, 53, 54, 55, 56, 57, 97, 98, 99, 100, 101, 102]⟩) :: Is (.int .u16 (u : Int)) :: Is (.int .u16 ((u : Int) / 256)) :: Is (.int .u16 (d2 : Int)) :: Is (.int .u8 (c2.toNat : Int)) :: Is (.string ⟨#[48, 49, 50, 51, 52, 53, 54, 55, 56, 57, 97, 98, 99, 100, 101, 102]⟩) :: Is (.int .u16 (u : Int)) :: Is (.int .u16 ((u : Int) / 16)) :: Is (.int .u16 (d3 : Int)) :: Is (.int .u8 (c3.toNat : Int)) :: Is (.string ⟨#[48, 49, 50, 51, 52, 53, 54, 55, 56, 57, 97, 98, 99, 100, 101, 102]⟩) :: Is (.int .u16 (u : Int)) :: Is (.int .u16 (d4 : Int)) :: Is (.int .u8 (c4.toNat : Int)) :: (IsRow 5 4 #[.int .u8 (c1.toNat : Int), .int .u8 (c2.toNat : Int), .int .u8 (c3.toNat : Int), .int .u8 (c4.toNat : Int)]) :: Is (.string ⟨#[c1, c2, c3, c4]⟩) :: Is (.string (⟨#[92, 117]⟩ ++ ⟨#[c1, c2, c3, c4]⟩)) :: Is (.string (sB 39 true lk ++ (⟨#[92, 117]⟩ ++ ⟨#[c1, c2, c3, c4]⟩))) :: Is (.string (sB 39 true lk ++ (⟨#[92, 117]⟩ ++ ⟨#[c1, c2, c3, c4]⟩))) :: [] : List (Value → World → Prop)) [some 31, some 32, some 33, some 34, some 35, some 36, some 37, some 38, some 39, some 40, some 41, some 42, some 43, some 44, some 45, some 46, some 47, some 48, some 49, some 50, some 51, some 52, some 53, some 6] (by kernel_rfl) rfl rfl ?_ (by kernel_rfl) ?_
                · refine Steps.cons rfl (fun bb aa w' hbs hb0 hbp hI K hK => ?_) ?_
                  · obtain ⟨us, hus, rfl, hI⟩ := hI
                    obtain ⟨u0, u1, u2, u3, u4, u5, u6, u7, u8, u9, u10, u11, u12, u13, u14, u15, u16, u17, u18, u19, u20, u21, u22, u23, rfl⟩ := len24 hus
                    have h23_0 := hI.before 23 0 _ rfl (by kernel_rfl) hb0
                    have e23 : u23 = .string (sB 39 true lk) := hI.init 23 h23_0
                    subst e23
                    clear h23_0
                    have hch := hI.below
                    have HI := Veil.mk hI
                    clear hI
                    simp only [puts, setAll, List.setIfInBounds_toArray, List.set_cons_zero, List.set_cons_succ]
                    go_simp
                    exact hK _ _ (rf_step HI.out hus hbs hks 0 _ _ (by show 0 < 24; decide) rfl rfl hbp rfl (Below.refl _ _) (by simp only [puts, setAll, List.set_cons_zero, List.set_cons_succ, List.setIfInBounds_toArray]))
                  refine Steps.cons rfl (fun bb aa w' hbs hb0 hbp hI K hK => ?_) ?_
                  · obtain ⟨us, hus, rfl, hI⟩ := hI
                    obtain ⟨u0, u1, u2, u3, u4, u5, u6, u7, u8, u9, u10, u11, u12, u13, u14, u15, u16, u17, u18, u19, u20, u21, u22, u23, rfl⟩ := len24 hus
                    have hch := hI.below
                    have HI := Veil.mk hI
                    clear hI
                    simp only [puts, setAll, List.setIfInBounds_toArray, List.set_cons_zero, List.set_cons_succ]
                    go_simp
                    exact hK _ _ (rf_step HI.out hus hbs hks 1 _ _ (by show 1 < 24; decide) rfl rfl hbp rfl (Below.refl _ _) (by simp only [puts, setAll, List.set_cons_zero, List.set_cons_succ, List.setIfInBounds_toArray]))
                  refine Steps.cons rfl (fun bb aa w' hbs hb0 hbp hI K hK => ?_) ?_
                  · obtain ⟨us, hus, rfl, hI⟩ := hI
                    obtain ⟨u0, u1, u2, u3, u4, u5, u6, u7, u8, u9, u10, u11, u12, u13, u14, u15, u16, u17, u18, u19, u20, u21, u22, u23, rfl⟩ := len24 hus
                    have hch := hI.below
                    have HI := Veil.mk hI
                    clear hI
                    simp only [puts, setAll, List.setIfInBounds_toArray, List.set_cons_zero, List.set_cons_succ]
                    go_simp
                    exact hK _ _ (rf_step HI.out hus hbs hks 2 _ _ (by show 2 < 24; decide) rfl rfl hbp rfl (Below.refl _ _) (by simp only [puts, setAll, List.set_cons_zero, List.set_cons_succ, List.setIfInBounds_toArray]))
                  refine Steps.cons rfl (fun bb aa w' hbs hb0 hbp hI K hK => ?_) ?_
                  · obtain ⟨us, hus, rfl, hI⟩ := hI
                    obtain ⟨u0, u1, u2, u3, u4, u5, u6, u7, u8, u9, u10, u11, u12, u13, u14, u15, u16, u17, u18, u19, u20, u21, u22, u23, rfl⟩ := len24 hus
                    have e2 : u2 = .int .u16 (u : Int) := hI.fact 2 _ rfl (gen_after 2 (by kernel_rfl) hbp)
                    subst e2
                    have hch := hI.below
                    have HI := Veil.mk hI
                    clear hI
                    simp only [puts, setAll, List.setIfInBounds_toArray, List.set_cons_zero, List.set_cons_succ]
                    go_simp
                    exact hK _ _ (rf_step HI.out hus hbs hks 3 _ _ (by show 3 < 24; decide) rfl rfl hbp rfl (Below.refl _ _) (by simp only [puts, setAll, List.set_cons_zero, List.set_cons_succ, List.setIfInBounds_toArray]))
                  refine Steps.cons rfl (fun bb aa w' hbs hb0 hbp hI K hK => ?_) ?_
                  · obtain ⟨us, hus, rfl, hI⟩ := hI
                    obtain ⟨u0, u1, u2, u3, u4, u5, u6, u7, u8, u9, u10, u11, u12, u13, u14, u15, u16, u17, u18, u19, u20, u21, u22, u23, rfl⟩ := len24 hus
                    have e1 : u1 = .string ⟨#[48, 49, 50, 51, 52, 53, 54, 55, 56, 57, 97, 98, 99, 100, 101, 102]⟩ := hI.fact 1 _ rfl (gen_after 1 (by kernel_rfl) hbp)
                    subst e1
                    have e3 : u3 = .int .u16 ((u : Int) / 4096) := hI.fact 3 _ rfl (gen_after 3 (by kernel_rfl) hbp)
                    subst e3
                    have hch := hI.below
                    have HI := Veil.mk hI
                    clear hI
                    simp only [puts, setAll, List.setIfInBounds_toArray, List.set_cons_zero, List.set_cons_succ]
                    go_simp
                    exact hK _ _ (rf_step HI.out hus hbs hks 4 _ _ (by show 4 < 24; decide) rfl rfl hbp rfl (Below.refl _ _) (by simp only [puts, setAll, List.set_cons_zero, List.set_cons_succ, List.setIfInBounds_toArray]))
                  refine Steps.cons rfl (fun bb aa w' hbs hb0 hbp hI K hK => ?_) ?_
                  · obtain ⟨us, hus, rfl, hI⟩ := hI
                    obtain ⟨u0, u1, u2, u3, u4, u5, u6, u7, u8, u9, u10, u11, u12, u13, u14, u15, u16, u17, u18, u19, u20, u21, u22, u23, rfl⟩ := len24 hus
                    have hch := hI.below
                    have HI := Veil.mk hI
                    clear hI
                    simp only [puts, setAll, List.setIfInBounds_toArray, List.set_cons_zero, List.set_cons_succ]
                    go_simp
                    exact hK _ _ (rf_step HI.out hus hbs hks 5 _ _ (by show 5 < 24; decide) rfl rfl hbp rfl (Below.refl _ _) (by simp only [puts, setAll, List.set_cons_zero, List.set_cons_succ, List.setIfInBounds_toArray]))
                  refine Steps.cons rfl (fun bb aa w' hbs hb0 hbp hI K hK => ?_) ?_
                  · obtain ⟨us, hus, rfl, hI⟩ := hI
                    obtain ⟨u0, u1, u2, u3, u4, u5, u6, u7, u8, u9, u10, u11, u12, u13, u14, u15, u16, u17, u18, u19, u20, u21, u22, u23, rfl⟩ := len24 hus
                    have hch := hI.below
                    have HI := Veil.mk hI
                    clear hI
                    simp only [puts, setAll, List.setIfInBounds_toArray, List.set_cons_zero, List.set_cons_succ]
                    go_simp
                    exact hK _ _ (rf_step HI.out hus hbs hks 6 _ _ (by show 6 < 24; decide) rfl rfl hbp rfl (Below.refl _ _) (by simp only [puts, setAll, List.set_cons_zero, List.set_cons_succ, List.setIfInBounds_toArray]))
                  refine Steps.cons rfl (fun bb aa w' hbs hb0 hbp hI K hK => ?_) ?_
                  · obtain ⟨us, hus, rfl, hI⟩ := hI
                    obtain ⟨u0, u1, u2, u3, u4, u5, u6, u7, u8, u9, u10, u11, u12, u13, u14, u15, u16, u17, u18, u19, u20, u21, u22, u23, rfl⟩ := len24 hus
                    have e6 : u6 = .int .u16 (u : Int) := hI.fact 6 _ rfl (gen_after 6 (by kernel_rfl) hbp)
                    subst e6
                    have hch := hI.below
                    have HI := Veil.mk hI
                    clear hI
                    simp only [puts, setAll, List.setIfInBounds_toArray, List.set_cons_zero, List.set_cons_succ]
                    go_simp
                    exact hK _ _ (rf_step HI.out hus hbs hks 7 _ _ (by show 7 < 24; decide) rfl rfl hbp rfl (Below.refl _ _) (by simp only [puts, setAll, List.set_cons_zero, List.set_cons_succ, List.setIfInBounds_toArray]))
                  refine Steps.cons rfl (fun bb aa w' hbs hb0 hbp hI K hK => ?_) ?_
                  · obtain ⟨us, hus, rfl, hI⟩ := hI
                    obtain ⟨u0, u1, u2, u3, u4, u5, u6, u7, u8, u9, u10, u11, u12, u13, u14, u15, u16, u17, u18, u19, u20, u21, u22, u23, rfl⟩ := len24 hus
                    have e7 : u7 = .int .u16 ((u : Int) / 256) := hI.fact 7 _ rfl (gen_after 7 (by kernel_rfl) hbp)
                    subst e7
                    have hch := hI.below
                    have HI := Veil.mk hI
                    clear hI
                    simp only [puts, setAll, List.setIfInBounds_toArray, List.set_cons_zero, List.set_cons_succ]
                    go_simp
                    exact hK _ _ (rf_step HI.out hus hbs hks 8 _ _ (by show 8 < 24; decide) rfl rfl hbp rfl (Below.refl _ _) (by simp only [puts, setAll, List.set_cons_zero, List.set_cons_succ, List.setIfInBounds_toArray]))
                  refine Steps.cons rfl (fun bb aa w' hbs hb0 hbp hI K hK => ?_) ?_
                  · obtain ⟨us, hus, rfl, hI⟩ := hI
                    obtain ⟨u0, u1, u2, u3, u4, u5, u6, u7, u8, u9, u10, u11, u12, u13, u14, u15, u16, u17, u18, u19, u20, u21, u22, u23, rfl⟩ := len24 hus
                    have e5 : u5 = .string ⟨#[48, 49, 50, 51, 52, 53, 54, 55, 56, 57, 97, 98, 99, 100, 101, 102]⟩ := hI.fact 5 _ rfl (gen_after 5 (by kernel_rfl) hbp)
                    subst e5
                    have e8 : u8 = .int .u16 (d2 : Int) := hI.fact 8 _ rfl (gen_after 8 (by kernel_rfl) hbp)
                    subst e8
                    have hch := hI.below
                    have HI := Veil.mk hI
                    clear hI
                    simp only [puts, setAll, List.setIfInBounds_toArray, List.set_cons_zero, List.set_cons_succ]
                    go_simp
                    exact hK _ _ (rf_step HI.out hus hbs hks 9 _ _ (by show 9 < 24; decide) rfl rfl hbp rfl (Below.refl _ _) (by simp only [puts, setAll, List.set_cons_zero, List.set_cons_succ, List.setIfInBounds_toArray]))
                  refine Steps.cons rfl (fun bb aa w' hbs hb0 hbp hI K hK => ?_) ?_
                  · obtain ⟨us, hus, rfl, hI⟩ := hI
                    obtain ⟨u0, u1, u2, u3, u4, u5, u6, u7, u8, u9, u10, u11, u12, u13, u14, u15, u16, u17, u18, u19, u20, u21, u22, u23, rfl⟩ := len24 hus
                    have hch := hI.below
                    have HI := Veil.mk hI
                    clear hI
                    simp only [puts, setAll, List.setIfInBounds_toArray, List.set_cons_zero, List.set_cons_succ]
                    go_simp
                    exact hK _ _ (rf_step HI.out hus hbs hks 10 _ _ (by show 10 < 24; decide) rfl rfl hbp rfl (Below.refl _ _) (by simp only [puts, setAll, List.set_cons_zero, List.set_cons_succ, List.setIfInBounds_toArray]))
                  refine Steps.cons rfl (fun bb aa w' hbs hb0 hbp hI K hK => ?_) ?_
                  · obtain ⟨us, hus, rfl, hI⟩ := hI
                    obtain ⟨u0, u1, u2, u3, u4, u5, u6, u7, u8, u9, u10, u11, u12, u13, u14, u15, u16, u17, u18, u19, u20, u21, u22, u23, rfl⟩ := len24 hus
                    have hch := hI.below
                    have HI := Veil.mk hI
                    clear hI
                    simp only [puts, setAll, List.setIfInBounds_toArray, List.set_cons_zero, List.set_cons_succ]
                    go_simp
                    exact hK _ _ (rf_step HI.out hus hbs hks 11 _ _ (by show 11 < 24; decide) rfl rfl hbp rfl (Below.refl _ _) (by simp only [puts, setAll, List.set_cons_zero, List.set_cons_succ, List.setIfInBounds_toArray]))
                  refine Steps.cons rfl (fun bb aa w' hbs hb0 hbp hI K hK => ?_) ?_
                  · obtain ⟨us, hus, rfl, hI⟩ := hI
                    obtain ⟨u0, u1, u2, u3, u4, u5, u6, u7, u8, u9, u10, u11, u12, u13, u14, u15, u16, u17, u18, u19, u20, u21, u22, u23, rfl⟩ := len24 hus
                    have e11 : u11 = .int .u16 (u : Int) := hI.fact 11 _ rfl (gen_after 11 (by kernel_rfl) hbp)
                    subst e11
                    have hch := hI.below
                    have HI := Veil.mk hI
                    clear hI
                    simp only [puts, setAll, List.setIfInBounds_toArray, List.set_cons_zero, List.set_cons_succ]
                    go_simp
                    exact hK _ _ (rf_step HI.out hus hbs hks 12 _ _ (by show 12 < 24; decide) rfl rfl hbp rfl (Below.refl _ _) (by simp only [puts, setAll, List.set_cons_zero, List.set_cons_succ, List.setIfInBounds_toArray]))
                  refine Steps.cons rfl (fun bb aa w' hbs hb0 hbp hI K hK => ?_) ?_
                  · obtain ⟨us, hus, rfl, hI⟩ := hI
                    obtain ⟨u0, u1, u2, u3, u4, u5, u6, u7, u8, u9, u10, u11, u12, u13, u14, u15, u16, u17, u18, u19, u20, u21, u22, u23, rfl⟩ := len24 hus
                    have e12 : u12 = .int .u16 ((u : Int) / 16) := hI.fact 12 _ rfl (gen_after 12 (by kernel_rfl) hbp)
                    subst e12
                    have hch := hI.below
                    have HI := Veil.mk hI
                    clear hI
                    simp only [puts, setAll, List.setIfInBounds_toArray, List.set_cons_zero, List.set_cons_succ]
                    go_simp
                    exact hK _ _ (rf_step HI.out hus hbs hks 13 _ _ (by show 13 < 24; decide) rfl rfl hbp rfl (Below.refl _ _) (by simp only [puts, setAll, List.set_cons_zero, List.set_cons_succ, List.setIfInBounds_toArray]))
                  refine Steps.cons rfl (fun bb aa w' hbs hb0 hbp hI K hK => ?_) ?_
                  · obtain ⟨us, hus, rfl, hI⟩ := hI
                    obtain ⟨u0, u1, u2, u3, u4, u5, u6, u7, u8, u9, u10, u11, u12, u13, u14, u15, u16, u17, u18, u19, u20, u21, u22, u23, rfl⟩ := len24 hus
                    have e10 : u10 = .string ⟨#[48, 49, 50, 51, 52, 53, 54, 55, 56, 57, 97, 98, 99, 100, 101, 102]⟩ := hI.fact 10 _ rfl (gen_after 10 (by kernel_rfl) hbp)
                    subst e10
                    have e13 : u13 = .int .u16 (d3 : Int) := hI.fact 13 _ rfl (gen_after 13 (by kernel_rfl) hbp)
                    subst e13
                    have hch := hI.below
                    have HI := Veil.mk hI
                    clear hI
                    simp only [puts, setAll, List.setIfInBounds_toArray, List.set_cons_zero, List.set_cons_succ]
                    go_simp
                    exact hK _ _ (rf_step HI.out hus hbs hks 14 _ _ (by show 14 < 24; decide) rfl rfl hbp rfl (Below.refl _ _) (by simp only [puts, setAll, List.set_cons_zero, List.set_cons_succ, List.setIfInBounds_toArray]))
                  refine Steps.cons rfl (fun bb aa w' hbs hb0 hbp hI K hK => ?_) ?_
                  · obtain ⟨us, hus, rfl, hI⟩ := hI
                    obtain ⟨u0, u1, u2, u3, u4, u5, u6, u7, u8, u9, u10, u11, u12, u13, u14, u15, u16, u17, u18, u19, u20, u21, u22, u23, rfl⟩ := len24 hus
                    have hch := hI.below
                    have HI := Veil.mk hI
                    clear hI
                    simp only [puts, setAll, List.setIfInBounds_toArray, List.set_cons_zero, List.set_cons_succ]
                    go_simp
                    exact hK _ _ (rf_step HI.out hus hbs hks 15 _ _ (by show 15 < 24; decide) rfl rfl hbp rfl (Below.refl _ _) (by simp only [puts, setAll, List.set_cons_zero, List.set_cons_succ, List.setIfInBounds_toArray]))
                  refine Steps.cons rfl (fun bb aa w' hbs hb0 hbp hI K hK => ?_) ?_
                  · obtain ⟨us, hus, rfl, hI⟩ := hI
                    obtain ⟨u0, u1, u2, u3, u4, u5, u6, u7, u8, u9, u10, u11, u12, u13, u14, u15, u16, u17, u18, u19, u20, u21, u22, u23, rfl⟩ := len24 hus
                    have hch := hI.below
                    have HI := Veil.mk hI
                    clear hI
                    simp only [puts, setAll, List.setIfInBounds_toArray, List.set_cons_zero, List.set_cons_succ]
                    go_simp
                    exact hK _ _ (rf_step HI.out hus hbs hks 16 _ _ (by show 16 < 24; decide) rfl rfl hbp rfl (Below.refl _ _) (by simp only [puts, setAll, List.set_cons_zero, List.set_cons_succ, List.setIfInBounds_toArray]))
                  refine Steps.cons rfl (fun bb aa w' hbs hb0 hbp hI K hK => ?_) ?_
                  · obtain ⟨us, hus, rfl, hI⟩ := hI
                    obtain ⟨u0, u1, u2, u3, u4, u5, u6, u7, u8, u9, u10, u11, u12, u13, u14, u15, u16, u17, u18, u19, u20, u21, u22, u23, rfl⟩ := len24 hus
                    have e16 : u16 = .int .u16 (u : Int) := hI.fact 16 _ rfl (gen_after 16 (by kernel_rfl) hbp)
                    subst e16
                    have hch := hI.below
                    have HI := Veil.mk hI
                    clear hI
                    simp only [puts, setAll, List.setIfInBounds_toArray, List.set_cons_zero, List.set_cons_succ]
                    go_simp
                    exact hK _ _ (rf_step HI.out hus hbs hks 17 _ _ (by show 17 < 24; decide) rfl rfl hbp rfl (Below.refl _ _) (by simp only [puts, setAll, List.set_cons_zero, List.set_cons_succ, List.setIfInBounds_toArray]))
                  refine Steps.cons rfl (fun bb aa w' hbs hb0 hbp hI K hK => ?_) ?_
                  · obtain ⟨us, hus, rfl, hI⟩ := hI
                    obtain ⟨u0, u1, u2, u3, u4, u5, u6, u7, u8, u9, u10, u11, u12, u13, u14, u15, u16, u17, u18, u19, u20, u21, u22, u23, rfl⟩ := len24 hus
                    have e15 : u15 = .string ⟨#[48, 49, 50, 51, 52, 53, 54, 55, 56, 57, 97, 98, 99, 100, 101, 102]⟩ := hI.fact 15 _ rfl (gen_after 15 (by kernel_rfl) hbp)
                    subst e15
                    have e17 : u17 = .int .u16 (d4 : Int) := hI.fact 17 _ rfl (gen_after 17 (by kernel_rfl) hbp)
                    subst e17
                    have hch := hI.below
                    have HI := Veil.mk hI
                    clear hI
                    simp only [puts, setAll, List.setIfInBounds_toArray, List.set_cons_zero, List.set_cons_succ]
                    go_simp
                    exact hK _ _ (rf_step HI.out hus hbs hks 18 _ _ (by show 18 < 24; decide) rfl rfl hbp rfl (Below.refl _ _) (by simp only [puts, setAll, List.set_cons_zero, List.set_cons_succ, List.setIfInBounds_toArray]))
                  refine Steps.cons rfl (fun bb aa w' hbs hb0 hbp hI K hK => ?_) ?_
                  · obtain ⟨us, hus, rfl, hI⟩ := hI
                    obtain ⟨u0, u1, u2, u3, u4, u5, u6, u7, u8, u9, u10, u11, u12, u13, u14, u15, u16, u17, u18, u19, u20, u21, u22, u23, rfl⟩ := len24 hus
                    have e4 : u4 = .int .u8 (c1.toNat : Int) := hI.fact 4 _ rfl (gen_after 4 (by kernel_rfl) hbp)
                    subst e4
                    have e9 : u9 = .int .u8 (c2.toNat : Int) := hI.fact 9 _ rfl (gen_after 9 (by kernel_rfl) hbp)
                    subst e9
                    have e14 : u14 = .int .u8 (c3.toNat : Int) := hI.fact 14 _ rfl (gen_after 14 (by kernel_rfl) hbp)
                    subst e14
                    have e18 : u18 = .int .u8 (c4.toNat : Int) := hI.fact 18 _ rfl (gen_after 18 (by kernel_rfl) hbp)
                    subst e18
                    have hch := hI.below
                    have HI := Veil.mk hI
                    clear hI
                    simp only [puts, setAll, List.setIfInBounds_toArray, List.set_cons_zero, List.set_cons_succ]
                    go_simp
                    exact hK _ _ (rf_step HI.out hus hbs hks 19 _ (.slice (some ⟨w'.heap.size, 0, none⟩) 4 4) (by show 19 < 24; decide) rfl rfl hbp ⟨w'.heap.size, rfl, Box.new w' _ _⟩ ((Below.refl _ _).alloc (Nat.le_refl _) _) (by simp only [puts, setAll, List.set_cons_zero, List.set_cons_succ, List.setIfInBounds_toArray]))
                  refine Steps.cons rfl (fun bb aa w' hbs hb0 hbp hI K hK => ?_) ?_
                  · obtain ⟨us, hus, rfl, hI⟩ := hI
                    obtain ⟨u0, u1, u2, u3, u4, u5, u6, u7, u8, u9, u10, u11, u12, u13, u14, u15, u16, u17, u18, u19, u20, u21, u22, u23, rfl⟩ := len24 hus
                    have q19 := hI.fact 19 _ rfl (gen_after 19 (by kernel_rfl) hbp)
                    have hch := hI.below
                    have HI := Veil.mk hI
                    clear hI
                    simp only [puts, setAll, List.setIfInBounds_toArray, List.set_cons_zero, List.set_cons_succ]
                    obtain ⟨g19, e19, b19⟩ := q19
                    have e19 : u19 = .slice (some ⟨g19, 0, none⟩) 4 4 := e19
                    subst e19
                    have hcv := conv_four w' g19 c1 c2 c3 c4 b19
                    go_simp
                    exact hK _ _ (rf_step HI.out hus hbs hks 20 _ _ (by show 20 < 24; decide) rfl rfl hbp rfl (Below.refl _ _) (by simp only [puts, setAll, List.set_cons_zero, List.set_cons_succ, List.setIfInBounds_toArray]))
                  refine Steps.cons rfl (fun bb aa w' hbs hb0 hbp hI K hK => ?_) ?_
                  · obtain ⟨us, hus, rfl, hI⟩ := hI
                    obtain ⟨u0, u1, u2, u3, u4, u5, u6, u7, u8, u9, u10, u11, u12, u13, u14, u15, u16, u17, u18, u19, u20, u21, u22, u23, rfl⟩ := len24 hus
                    have e20 : u20 = .string ⟨#[c1, c2, c3, c4]⟩ := hI.fact 20 _ rfl (gen_after 20 (by kernel_rfl) hbp)
                    subst e20
                    have hch := hI.below
                    have HI := Veil.mk hI
                    clear hI
                    simp only [puts, setAll, List.setIfInBounds_toArray, List.set_cons_zero, List.set_cons_succ]
                    go_simp
                    exact hK _ _ (rf_step HI.out hus hbs hks 21 _ _ (by show 21 < 24; decide) rfl rfl hbp rfl (Below.refl _ _) (by simp only [puts, setAll, List.set_cons_zero, List.set_cons_succ, List.setIfInBounds_toArray]))
                  refine Steps.cons rfl (fun bb aa w' hbs hb0 hbp hI K hK => ?_) ?_
                  · obtain ⟨us, hus, rfl, hI⟩ := hI
                    obtain ⟨u0, u1, u2, u3, u4, u5, u6, u7, u8, u9, u10, u11, u12, u13, u14, u15, u16, u17, u18, u19, u20, u21, u22, u23, rfl⟩ := len24 hus
                    have e0 : u0 = .string (sB 39 true lk) := hI.fact 0 _ rfl (gen_after 0 (by kernel_rfl) hbp)
                    subst e0
                    have e21 : u21 = .string (⟨#[92, 117]⟩ ++ ⟨#[c1, c2, c3, c4]⟩) := hI.fact 21 _ rfl (gen_after 21 (by kernel_rfl) hbp)
                    subst e21
                    have hch := hI.below
                    have HI := Veil.mk hI
                    clear hI
                    simp only [puts, setAll, List.setIfInBounds_toArray, List.set_cons_zero, List.set_cons_succ]
                    have hs6 : ¬ 9223372036854775807 < (sB 39 true lk).size + 6 := by omega
                    go_simp
                    exact hK _ _ (rf_step HI.out hus hbs hks 22 _ _ (by show 22 < 24; decide) rfl rfl hbp rfl (Below.refl _ _) (by simp only [puts, setAll, List.set_cons_zero, List.set_cons_succ, List.setIfInBounds_toArray]))
                  refine Steps.cons rfl (fun bb aa w' hbs hb0 hbp hI K hK => ?_) ?_
                  · obtain ⟨us, hus, rfl, hI⟩ := hI
                    obtain ⟨u0, u1, u2, u3, u4, u5, u6, u7, u8, u9, u10, u11, u12, u13, u14, u15, u16, u17, u18, u19, u20, u21, u22, u23, rfl⟩ := len24 hus
                    have e22 : u22 = .string (sB 39 true lk ++ (⟨#[92, 117]⟩ ++ ⟨#[c1, c2, c3, c4]⟩)) := hI.fact 22 _ rfl (gen_after 22 (by kernel_rfl) hbp)
                    subst e22
                    have hch := hI.below
                    have HI := Veil.mk hI
                    clear hI
                    simp only [puts, setAll, List.setIfInBounds_toArray, List.set_cons_zero, List.set_cons_succ]
                    go_simp
                    exact hK _ _ (rf_step HI.out hus hbs hks 23 _ _ (by show 23 < 24; decide) rfl rfl hbp rfl (Below.refl _ _) (by simp only [puts, setAll, List.set_cons_zero, List.set_cons_succ, List.setIfInBounds_toArray]))
                  exact Steps.nil
                · intro us w' hus hd
                  obtain ⟨u0, u1, u2, u3, u4, u5, u6, u7, u8, u9, u10, u11, u12, u13, u14, u15, u16, u17, u18, u19, u20, u21, u22, u23, rfl⟩ := len24 hus
                  obtain ⟨hbW, hd⟩ := hd
                  have e0 : u0 = .string (sB 39 true lk) := hd 0 _ rfl
                  subst e0
                  have e1 : u1 = .string ⟨#[48, 49, 50, 51, 52, 53, 54, 55, 56, 57, 97, 98, 99, 100, 101, 102]⟩ := hd 1 _ rfl
                  subst e1
                  have e2 : u2 = .int .u16 (u : Int) := hd 2 _ rfl
                  subst e2
                  have e3 : u3 = .int .u16 ((u : Int) / 4096) := hd 3 _ rfl
                  subst e3
                  have e4 : u4 = .int .u8 (c1.toNat : Int) := hd 4 _ rfl
                  subst e4
                  have e5 : u5 = .string ⟨#[48, 49, 50, 51, 52, 53, 54, 55, 56, 57, 97, 98, 99, 100, 101, 102]⟩ := hd 5 _ rfl
                  subst e5
                  have e6 : u6 = .int .u16 (u : Int) := hd 6 _ rfl
                  subst e6
                  have e7 : u7 = .int .u16 ((u : Int) / 256) := hd 7 _ rfl
                  subst e7
                  have e8 : u8 = .int .u16 (d2 : Int) := hd 8 _ rfl
                  subst e8
                  have e9 : u9 = .int .u8 (c2.toNat : Int) := hd 9 _ rfl
                  subst e9
                  have e10 : u10 = .string ⟨#[48, 49, 50, 51, 52, 53, 54, 55, 56, 57, 97, 98, 99, 100, 101, 102]⟩ := hd 10 _ rfl
                  subst e10
                  have e11 : u11 = .int .u16 (u : Int) := hd 11 _ rfl
                  subst e11
                  have e12 : u12 = .int .u16 ((u : Int) / 16) := hd 12 _ rfl
                  subst e12
                  have e13 : u13 = .int .u16 (d3 : Int) := hd 13 _ rfl
                  subst e13
                  have e14 : u14 = .int .u8 (c3.toNat : Int) := hd 14 _ rfl
                  subst e14
                  have e15 : u15 = .string ⟨#[48, 49, 50, 51, 52, 53, 54, 55, 56, 57, 97, 98, 99, 100, 101, 102]⟩ := hd 15 _ rfl
                  subst e15
                  have e16 : u16 = .int .u16 (u : Int) := hd 16 _ rfl
                  subst e16
                  have e17 : u17 = .int .u16 (d4 : Int) := hd 17 _ rfl
                  subst e17
                  have e18 : u18 = .int .u8 (c4.toNat : Int) := hd 18 _ rfl
                  subst e18
                  have q19 := hd 19 _ rfl
                  have e20 : u20 = .string ⟨#[c1, c2, c3, c4]⟩ := hd 20 _ rfl
                  subst e20
                  have e21 : u21 = .string (⟨#[92, 117]⟩ ++ ⟨#[c1, c2, c3, c4]⟩) := hd 21 _ rfl
                  subst e21
                  have e22 : u22 = .string (sB 39 true lk ++ (⟨#[92, 117]⟩ ++ ⟨#[c1, c2, c3, c4]⟩)) := hd 22 _ rfl
                  subst e22
                  have e23 : u23 = .string (sB 39 true lk ++ (⟨#[92, 117]⟩ ++ ⟨#[c1, c2, c3, c4]⟩)) := hd 23 _ rfl
                  subst e23
                  clear hd
                  simp only [puts, setAll, List.setIfInBounds_toArray, List.set_cons_zero, List.set_cons_succ]
                  obtain ⟨g19, e19, b19⟩ := q19
                  have e19 : u19 = .slice (some ⟨g19, 0, none⟩) 4 4 := e19
                  subst e19
                  have HBW := Veil.mk hbW
                  clear hbW
                  go_wp2
                  exact HREL.out _ _ (by rw [← HAD.out, four_app]) HBW.out
            · have g0 : ((u : Int) == 10) = false := beq_eq_false_iff_ne.2 (by omega)
              obtain ⟨c1, hc1⟩ : ∃ c, hx (u / 4096) = c := ⟨_, rfl⟩
              obtain ⟨c2, hc2⟩ : ∃ c, hx (u / 256 % 16) = c := ⟨_, rfl⟩
              obtain ⟨c3, hc3⟩ : ∃ c, hx (u / 16 % 16) = c := ⟨_, rfl⟩
              obtain ⟨c4, hc4⟩ : ∃ c, hx (u % 16) = c := ⟨_, rfl⟩
              have hpc : pcL true u = [92, 117, c1, c2, c3, c4] := by unfold pcL; rw [if_neg (fun h => Bool.noConfusion h.2), if_neg h3, if_neg h4, hc1, hc2, hc3, hc4]
              have HAD := Veil.mk (sB_add 39 true lk u _ hpc)
              obtain ⟨d2, hd2⟩ : ∃ d, u / 256 % 16 = d := ⟨_, rfl⟩
              obtain ⟨d3, hd3⟩ : ∃ d, u / 16 % 16 = d := ⟨_, rfl⟩
              obtain ⟨d4, hd4⟩ : ∃ d, u % 16 = d := ⟨_, rfl⟩
              have hm2 : bits .and .u16 ((u : Int) / 256) 15 = (d2 : Int) := by rw [mask15 (u / 256) _ (by omega) (by omega), hd2]
              have hm3 : bits .and .u16 ((u : Int) / 16) 15 = (d3 : Int) := by rw [mask15 (u / 16) _ (by omega) (by omega), hd3]
              have hm4 : bits .and .u16 (u : Int) 15 = (d4 : Int) := by rw [mask15 u _ rfl (by omega), hd4]
              have hix1 := idx_run (u / 4096) ((u : Int) / 4096) (by omega) (by omega)
              have hix2 := idx_run d2 d2 rfl (by omega)
              have hix3 := idx_run d3 d3 rfl (by omega)
              have hix4 := idx_run d4 d4 rfl (by omega)
              rw [hc1] at hix1
              rw [hd2] at hc2
              rw [hd3] at hc3
              rw [hd4] at hc4
              rw [hc2] at hix2
              rw [hc3] at hix3
              rw [hc4] at hix4
              have g1 : ((u : Int) == 39) = false := beq_eq_false_iff_ne.2 (by omega)
              have g2 : ((u : Int) == 34) = false := beq_eq_false_iff_ne.2 (by omega)
              have g3 : ((u : Int) == 92) = false := beq_eq_false_iff_ne.2 (by omega)
              clear hpc h3 hc1 hc2 hc3 hc4 hd2 hd3 hd4
              by_cases g4 : (32 : Int) ≤ (u : Int)
              all_goals
                first
                | have g5 : ¬ (u : Int) < 127 := by omega
                | skip
                clear h4
                go_upto_region 15 with (fail)
                have hks : KeepsAll (Is (.string (sB 39 true lk)) :: Is (.string ⟨#[48, 49, 50, 51, 52, 53, 54, 55, 56, 57, 97, 98, 99, 100, 101, 102]⟩) :: Is (.int .u16 (u : Int)) :: Is (.int .u16 ((u : Int) / 4096)) :: Is (.int .u8 (c1.toNat : Int)) :: Is (.string ⟨#[48, 49, 50, 51, 52, 53, 54, 55, 56, 57, 97, 98, 99, 100, 101, 102]⟩) :: Is (.int .u16 (u : Int)) :: Is (.int .u16 ((u : Int) / 256)) :: Is (.int .u16 (d2 : Int)) :: Is (.int .u8 (c2.toNat : Int)) :: Is (.string ⟨#[48, 49, 50, 51, 52, 53, 54, 55, 56, 57, 97, 98, 99, 100, 101, 102]⟩) :: Is (.int .u16 (u : Int)) :: Is (.int .u16 ((u : Int) / 16)) :: Is (.int .u16 (d3 : Int)) :: Is (.int .u8 (c3.toNat : Int)) :: Is (.string ⟨#[48, 49, 50, 51, 52, 53, 54, 55, 56, 57, 97, 98, 99, 100, 101, 102]⟩) :: Is (.int .u16 (u : Int)) :: Is (.int .u16 (d4 : Int)) :: Is (.int .u8 (c4.toNat : Int)) :: (IsRow 5 4 #[.int .u8 (c1.toNat : Int), .int .u8 (c2.toNat : Int), .int .u8 (c3.toNat : Int), .int .u8 (c4.toNat : Int)]) :: Is (.string ⟨#[c1, c2, c3, c4]⟩) :: Is (.string (⟨#[92, 117]⟩ ++ ⟨#[c1, c2, c3, c4]⟩)) :: Is (.string (sB 39 true lk ++ (⟨#[92, 117]⟩ ++ ⟨#[c1, c2, c3, c4]⟩))) :: Is (.string (sB 39 true lk ++ (⟨#[92, 117]⟩ ++ ⟨#[c1, c2, c3, c4]⟩))) :: [] : List (Value → World → Prop)) := ⟨keeps_is _, keeps_is _, keeps_is _, keeps_is _, keeps_is _, keeps_is _, keeps_is _, keeps_is _, keeps_is _, keeps_is _, keeps_is _, keeps_is _, keeps_is _, keeps_is _, keeps_is _, keeps_is _, keeps_is _, keeps_is _, keeps_is _, keeps_row _ _ _, keeps_is _, keeps_is _, keeps_is _, keeps_is _, trivial⟩
                refine wp_region_rf (Is (.string (sB 39 true lk)) :: Is (.string ⟨#[48, 49, 50, 51, 52, 53, 54, 55, 56, 57, 97, 98, 99, 100, 101, 102]⟩) :: Is (.int .u16 (u : Int)) :: Is (.int .u16 ((u : Int) / 4096)) :: Is (.int .u8 (c1.toNat : Int)) :: Is (.string ⟨#[48, 49, 50, 51, 52, 53, 54, 55, 56, 57, 97, 98, 99, 100, 101, 102]⟩) :: Is (.int .u16 (u : Int)) :: Is (.int .u16 ((u : Int) / 256)) :: Is (.int .u16 (d2 : Int)) :: Is (.int .u8 (c2.toNat : Int)) :: Is (.string ⟨#[48, 49, 50, 51, 52, 53, 54, 55, 56, 57, 97, 98, 99, 100, 101, 102]⟩) :: Is (.int .u16 (u : Int)) :: Is (.int .u16 ((u : Int) / 16)) :: Is (.int .u16 (d3 : Int)) :: Is (.int .u8 (c3.toNat : Int)) :: Is (.string ⟨#[48, 49, 50, 51, 52, 53, 54, 55, 56, 57, 97, 98, 99, 100, 101, 102]⟩) :: Is (.int .u16 (u : Int)) :: Is (.int .u16 (d4 : Int)) :: Is (.int .u8 (c4.toNat : Int)) :: (IsRow 5 4 #[.int .u8 (c1.toNat : Int), .int .u8 (c2.toNat : Int), .int .u8 (c3.toNat : Int), .int .u8 (c4.toNat : Int)]) :: Is (.string ⟨#[c1, c2, c3, c4]⟩) :: Is (.string (⟨#[92, 117]⟩ ++ ⟨#[c1, c2, c3, c4]⟩)) :: Is (.string (sB 39 true lk ++ (⟨#[92, 117]⟩ ++ ⟨#[c1, c2, c3, c4]⟩))) :: Is (.string (sB 39 true lk ++ (⟨#[92, 117]⟩ ++ ⟨#[c1, c2, c3, c4]⟩))) :: [] : List (Value → World → Prop)) [some 31, some 32, some 33, some 34, some 35, some 36, some 37, some 38, some 39, some 40, some 41, some 42, some 43, some 44, some 45, some 46, some 47, some 48, some 49, some 50, some 51, some 52, some 53, some 6] (by kernel_rfl) rfl rfl ?_ (by kernel_rfl) ?_
                · refine Steps.cons rfl (fun bb aa w' hbs hb0 hbp hI K hK => ?_) ?_
                  · obtain ⟨us, hus, rfl, hI⟩ := hI
                    obtain ⟨u0, u1, u2, u3, u4, u5, u6, u7, u8, u9, u10, u11, u12, u13, u14, u15, u16, u17, u18, u19, u20, u21, u22, u23, rfl⟩ := len24 hus
                    have h23_0 := hI.before 23 0 _ rfl (by kernel_rfl) hb0
                    have e23 : u23 = .string (sB 39 true lk) := hI.init 23 h23_0
                    subst e23
                    clear h23_0
                    have hch := hI.below
                    have HI := Veil.mk hI
                    clear hI
                    simp only [puts, setAll, List.setIfInBounds_toArray, List.set_cons_zero, List.set_cons_succ]
                    go_simp
                    exact hK _ _ (rf_step HI.out hus hbs hks 0 _ _ (by show 0 < 24; decide) rfl rfl hbp rfl (Below.refl _ _) (by simp only [puts, setAll, List.set_cons_zero, List.set_cons_succ, List.setIfInBounds_toArray]))
                  refine Steps.cons rfl (fun bb aa w' hbs hb0 hbp hI K hK => ?_) ?_
                  · obtain ⟨us, hus, rfl, hI⟩ := hI
                    obtain ⟨u0, u1, u2, u3, u4, u5, u6, u7, u8, u9, u10, u11, u12, u13, u14, u15, u16, u17, u18, u19, u20, u21, u22, u23, rfl⟩ := len24 hus
                    have hch := hI.below
                    have HI := Veil.mk hI
                    clear hI
                    simp only [puts, setAll, List.setIfInBounds_toArray, List.set_cons_zero, List.set_cons_succ]
                    go_simp
                    exact hK _ _ (rf_step HI.out hus hbs hks 1 _ _ (by show 1 < 24; decide) rfl rfl hbp rfl (Below.refl _ _) (by simp only [puts, setAll, List.set_cons_zero, List.set_cons_succ, List.setIfInBounds_toArray]))
                  refine Steps.cons rfl (fun bb aa w' hbs hb0 hbp hI K hK => ?_) ?_
                  · obtain ⟨us, hus, rfl, hI⟩ := hI
                    obtain ⟨u0, u1, u2, u3, u4, u5, u6, u7, u8, u9, u10, u11, u12, u13, u14, u15, u16, u17, u18, u19, u20, u21, u22, u23, rfl⟩ := len24 hus
                    have hch := hI.below
                    have HI := Veil.mk hI
                    clear hI
                    simp only [puts, setAll, List.setIfInBounds_toArray, List.set_cons_zero, List.set_cons_succ]
                    go_simp
                    exact hK _ _ (rf_step HI.out hus hbs hks 2 _ _ (by show 2 < 24; decide) rfl rfl hbp rfl (Below.refl _ _) (by simp only [puts, setAll, List.set_cons_zero, List.set_cons_succ, List.setIfInBounds_toArray]))
                  refine Steps.cons rfl (fun bb aa w' hbs hb0 hbp hI K hK => ?_) ?_
                  · obtain ⟨us, hus, rfl, hI⟩ := hI
                    obtain ⟨u0, u1, u2, u3, u4, u5, u6, u7, u8, u9, u10, u11, u12, u13, u14, u15, u16, u17, u18, u19, u20, u21, u22, u23, rfl⟩ := len24 hus
                    have e2 : u2 = .int .u16 (u : Int) := hI.fact 2 _ rfl (gen_after 2 (by kernel_rfl) hbp)
                    subst e2
                    have hch := hI.below
                    have HI := Veil.mk hI
                    clear hI
                    simp only [puts, setAll, List.setIfInBounds_toArray, List.set_cons_zero, List.set_cons_succ]
                    go_simp
                    exact hK _ _ (rf_step HI.out hus hbs hks 3 _ _ (by show 3 < 24; decide) rfl rfl hbp rfl (Below.refl _ _) (by simp only [puts, setAll, List.set_cons_zero, List.set_cons_succ, List.setIfInBounds_toArray]))
                  refine Steps.cons rfl (fun bb aa w' hbs hb0 hbp hI K hK => ?_) ?_
                  · obtain ⟨us, hus, rfl, hI⟩ := hI
                    obtain ⟨u0, u1, u2, u3, u4, u5, u6, u7, u8, u9, u10, u11, u12, u13, u14, u15, u16, u17, u18, u19, u20, u21, u22, u23, rfl⟩ := len24 hus
                    have e1 : u1 = .string ⟨#[48, 49, 50, 51, 52, 53, 54, 55, 56, 57, 97, 98, 99, 100, 101, 102]⟩ := hI.fact 1 _ rfl (gen_after 1 (by kernel_rfl) hbp)
                    subst e1
                    have e3 : u3 = .int .u16 ((u : Int) / 4096) := hI.fact 3 _ rfl (gen_after 3 (by kernel_rfl) hbp)
                    subst e3
                    have hch := hI.below
                    have HI := Veil.mk hI
                    clear hI
                    simp only [puts, setAll, List.setIfInBounds_toArray, List.set_cons_zero, List.set_cons_succ]
                    go_simp
                    exact hK _ _ (rf_step HI.out hus hbs hks 4 _ _ (by show 4 < 24; decide) rfl rfl hbp rfl (Below.refl _ _) (by simp only [puts, setAll, List.set_cons_zero, List.set_cons_succ, List.setIfInBounds_toArray]))
                  refine Steps.cons rfl (fun bb aa w' hbs hb0 hbp hI K hK => ?_) ?_
                  · obtain ⟨us, hus, rfl, hI⟩ := hI
                    obtain ⟨u0, u1, u2, u3, u4, u5, u6, u7, u8, u9, u10, u11, u12, u13, u14, u15, u16, u17, u18, u19, u20, u21, u22, u23, rfl⟩ := len24 hus
                    have hch := hI.below
                    have HI := Veil.mk hI
                    clear hI
                    simp only [puts, setAll, List.setIfInBounds_toArray, List.set_cons_zero, List.set_cons_succ]
                    go_simp
                    exact hK _ _ (rf_step HI.out hus hbs hks 5 _ _ (by show 5 < 24; decide) rfl rfl hbp rfl (Below.refl _ _) (by simp only [puts, setAll, List.set_cons_zero, List.set_cons_succ, List.setIfInBounds_toArray]))
                  refine Steps.cons rfl (fun bb aa w' hbs hb0 hbp hI K hK => ?_) ?_
                  · obtain ⟨us, hus, rfl, hI⟩ := hI
                    obtain ⟨u0, u1, u2, u3, u4, u5, u6, u7, u8, u9, u10, u11, u12, u13, u14, u15, u16, u17, u18, u19, u20, u21, u22, u23, rfl⟩ := len24 hus
                    have hch := hI.below
                    have HI := Veil.mk hI
                    clear hI
                    simp only [puts, setAll, List.setIfInBounds_toArray, List.set_cons_zero, List.set_cons_succ]
                    go_simp
                    exact hK _ _ (rf_step HI.out hus hbs hks 6 _ _ (by show 6 < 24; decide) rfl rfl hbp rfl (Below.refl _ _) (by simp only [puts, setAll, List.set_cons_zero, List.set_cons_succ, List.setIfInBounds_toArray]))
                  refine Steps.cons rfl (fun bb aa w' hbs hb0 hbp hI K hK => ?_) ?_
                  · obtain ⟨us, hus, rfl, hI⟩ := hI
                    obtain ⟨u0, u1, u2, u3, u4, u5, u6, u7, u8, u9, u10, u11, u12, u13, u14, u15, u16, u17, u18, u19, u20, u21, u22, u23, rfl⟩ := len24 hus
                    have e6 : u6 = .int .u16 (u : Int) := hI.fact 6 _ rfl (gen_after 6 (by kernel_rfl) hbp)
                    subst e6
                    have hch := hI.below
                    have HI := Veil.mk hI
                    clear hI
                    simp only [puts, setAll, List.setIfInBounds_toArray, List.set_cons_zero, List.set_cons_succ]
                    go_simp
                    exact hK _ _ (rf_step HI.out hus hbs hks 7 _ _ (by show 7 < 24; decide) rfl rfl hbp rfl (Below.refl _ _) (by simp only [puts, setAll, List.set_cons_zero, List.set_cons_succ, List.setIfInBounds_toArray]))
                  refine Steps.cons rfl (fun bb aa w' hbs hb0 hbp hI K hK => ?_) ?_
                  · obtain ⟨us, hus, rfl, hI⟩ := hI
                    obtain ⟨u0, u1, u2, u3, u4, u5, u6, u7, u8, u9, u10, u11, u12, u13, u14, u15, u16, u17, u18, u19, u20, u21, u22, u23, rfl⟩ := len24 hus
                    have e7 : u7 = .int .u16 ((u : Int) / 256) := hI.fact 7 _ rfl (gen_after 7 (by kernel_rfl) hbp)
                    subst e7
                    have hch := hI.below
                    have HI := Veil.mk hI
                    clear hI
                    simp only [puts, setAll, List.setIfInBounds_toArray, List.set_cons_zero, List.set_cons_succ]
                    go_simp
                    exact hK _ _ (rf_step HI.out hus hbs hks 8 _ _ (by show 8 < 24; decide) rfl rfl hbp rfl (Below.refl _ _) (by simp only [puts, setAll, List.set_cons_zero, List.set_cons_succ, List.setIfInBounds_toArray]))
                  refine Steps.cons rfl (fun bb aa w' hbs hb0 hbp hI K hK => ?_) ?_
                  · obtain ⟨us, hus, rfl, hI⟩ := hI
                    obtain ⟨u0, u1, u2, u3, u4, u5, u6, u7, u8, u9, u10, u11, u12, u13, u14, u15, u16, u17, u18, u19, u20, u21, u22, u23, rfl⟩ := len24 hus
                    have e5 : u5 = .string ⟨#[48, 49, 50, 51, 52, 53, 54, 55, 56, 57, 97, 98, 99, 100, 101, 102]⟩ := hI.fact 5 _ rfl (gen_after 5 (by kernel_rfl) hbp)
                    subst e5
                    have e8 : u8 = .int .u16 (d2 : Int) := hI.fact 8 _ rfl (gen_after 8 (by kernel_rfl) hbp)
                    subst e8
                    have hch := hI.below
                    have HI := Veil.mk hI
                    clear hI
                    simp only [puts, setAll, List.setIfInBounds_toArray, List.set_cons_zero, List.set_cons_succ]
                    go_simp
                    exact hK _ _ (rf_step HI.out hus hbs hks 9 _ _ (by show 9 < 24; decide) rfl rfl hbp rfl (Below.refl _ _) (by simp only [puts, setAll, List.set_cons_zero, List.set_cons_succ, List.setIfInBounds_toArray]))
                  refine Steps.cons rfl (fun bb aa w' hbs hb0 hbp hI K hK => ?_) ?_
                  · obtain ⟨us, hus, rfl, hI⟩ := hI
                    obtain ⟨u0, u1, u2, u3, u4, u5, u6, u7, u8, u9, u10, u11, u12, u13, u14, u15, u16, u17, u18, u19, u20, u21, u22, u23, rfl⟩ := len24 hus
                    have hch := hI.below
                    have HI := Veil.mk hI
                    clear hI
                    simp only [puts, setAll, List.setIfInBounds_toArray, List.set_cons_zero, List.set_cons_succ]
                    go_simp
                    exact hK _ _ (rf_step HI.out hus hbs hks 10 _ _ (by show 10 < 24; decide) rfl rfl hbp rfl (Below.refl _ _) (by simp only [puts, setAll, List.set_cons_zero, List.set_cons_succ, List.setIfInBounds_toArray]))
                  refine Steps.cons rfl (fun bb aa w' hbs hb0 hbp hI K hK => ?_) ?_
                  · obtain ⟨us, hus, rfl, hI⟩ := hI
                    obtain ⟨u0, u1, u2, u3, u4, u5, u6, u7, u8, u9, u10, u11, u12, u13, u14, u15, u16, u17, u18, u19, u20, u21, u22, u23, rfl⟩ := len24 hus
                    have hch := hI.below
                    have HI := Veil.mk hI
                    clear hI
                    simp only [puts, setAll, List.setIfInBounds_toArray, List.set_cons_zero, List.set_cons_succ]
                    go_simp
                    exact hK _ _ (rf_step HI.out hus hbs hks 11 _ _ (by show 11 < 24; decide) rfl rfl hbp rfl (Below.refl _ _) (by simp only [puts, setAll, List.set_cons_zero, List.set_cons_succ, List.setIfInBounds_toArray]))
                  refine Steps.cons rfl (fun bb aa w' hbs hb0 hbp hI K hK => ?_) ?_
                  · obtain ⟨us, hus, rfl, hI⟩ := hI
                    obtain ⟨u0, u1, u2, u3, u4, u5, u6, u7, u8, u9, u10, u11, u12, u13, u14, u15, u16, u17, u18, u19, u20, u21, u22, u23, rfl⟩ := len24 hus
                    have e11 : u11 = .int .u16 (u : Int) := hI.fact 11 _ rfl (gen_after 11 (by kernel_rfl) hbp)
                    subst e11
                    have hch := hI.below
                    have HI := Veil.mk hI
                    clear hI
                    simp only [puts, setAll, List.setIfInBounds_toArray, List.set_cons_zero, List.set_cons_succ]
                    go_simp
                    exact hK _ _ (rf_step HI.out hus hbs hks 12 _ _ (by show 12 < 24; decide) rfl rfl hbp rfl (Below.refl _ _) (by simp only [puts, setAll, List.set_cons_zero, List.set_cons_succ, List.setIfInBounds_toArray]))
                  refine Steps.cons rfl (fun bb aa w' hbs hb0 hbp hI K hK => ?_) ?_
                  · obtain ⟨us, hus, rfl, hI⟩ := hI
                    obtain ⟨u0, u1, u2, u3, u4, u5, u6, u7, u8, u9, u10, u11, u12, u13, u14, u15, u16, u17, u18, u19, u20, u21, u22, u23, rfl⟩ := len24 hus
                    have e12 : u12 = .int .u16 ((u : Int) / 16) := hI.fact 12 _ rfl (gen_after 12 (by kernel_rfl) hbp)
                    subst e12
                    have hch := hI.below
                    have HI := Veil.mk hI
                    clear hI
                    simp only [puts, setAll, List.setIfInBounds_toArray, List.set_cons_zero, List.set_cons_succ]
                    go_simp
                    exact hK _ _ (rf_step HI.out hus hbs hks 13 _ _ (by show 13 < 24; decide) rfl rfl hbp rfl (Below.refl _ _) (by simp only [puts, setAll, List.set_cons_zero, List.set_cons_succ, List.setIfInBounds_toArray]))
                  refine Steps.cons rfl (fun bb aa w' hbs hb0 hbp hI K hK => ?_) ?_
                  · obtain ⟨us, hus, rfl, hI⟩ := hI
                    obtain ⟨u0, u1, u2, u3, u4, u5, u6, u7, u8, u9, u10, u11, u12, u13, u14, u15, u16, u17, u18, u19, u20, u21, u22, u23, rfl⟩ := len24 hus
                    have e10 : u10 = .string ⟨#[48, 49, 50, 51, 52, 53, 54, 55, 56, 57, 97, 98, 99, 100, 101, 102]⟩ := hI.fact 10 _ rfl (gen_after 10 (by kernel_rfl) hbp)
                    subst e10
                    have e13 : u13 = .int .u16 (d3 : Int) := hI.fact 13 _ rfl (gen_after 13 (by kernel_rfl) hbp)
                    subst e13
                    have hch := hI.below
                    have HI := Veil.mk hI
                    clear hI
                    simp only [puts, setAll, List.setIfInBounds_toArray, List.set_cons_zero, List.set_cons_succ]
                    go_simp
                    exact hK _ _ (rf_step HI.out hus hbs hks 14 _ _ (by show 14 < 24; decide) rfl rfl hbp rfl (Below.refl _ _) (by simp only [puts, setAll, List.set_cons_zero, List.set_cons_succ, List.setIfInBounds_toArray]))
                  refine Steps.cons rfl (fun bb aa w' hbs hb0 hbp hI K hK => ?_) ?_
                  · obtain ⟨us, hus, rfl, hI⟩ := hI
                    obtain ⟨u0, u1, u2, u3, u4, u5, u6, u7, u8, u9, u10, u11, u12, u13, u14, u15, u16, u17, u18, u19, u20, u21, u22, u23, rfl⟩ := len24 hus
                    have hch := hI.below
                    have HI := Veil.mk hI
                    clear hI
                    simp only [puts, setAll, List.setIfInBounds_toArray, List.set_cons_zero, List.set_cons_succ]
                    go_simp
                    exact hK _ _ (rf_step HI.out hus hbs hks 15 _ _ (by show 15 < 24; decide) rfl rfl hbp rfl (Below.refl _ _) (by simp only [puts, setAll, List.set_cons_zero, List.set_cons_succ, List.setIfInBounds_toArray]))
                  refine Steps.cons rfl (fun bb aa w' hbs hb0 hbp hI K hK => ?_) ?_
                  · obtain ⟨us, hus, rfl, hI⟩ := hI
                    obtain ⟨u0, u1, u2, u3, u4, u5, u6, u7, u8, u9, u10, u11, u12, u13, u14, u15, u16, u17, u18, u19, u20, u21, u22, u23, rfl⟩ := len24 hus
                    have hch := hI.below
                    have HI := Veil.mk hI
                    clear hI
                    simp only [puts, setAll, List.setIfInBounds_toArray, List.set_cons_zero, List.set_cons_succ]
                    go_simp
                    exact hK _ _ (rf_step HI.out hus hbs hks 16 _ _ (by show 16 < 24; decide) rfl rfl hbp rfl (Below.refl _ _) (by simp only [puts, setAll, List.set_cons_zero, List.set_cons_succ, List.setIfInBounds_toArray]))
                  refine Steps.cons rfl (fun bb aa w' hbs hb0 hbp hI K hK => ?_) ?_
                  · obtain ⟨us, hus, rfl, hI⟩ := hI
                    obtain ⟨u0, u1, u2, u3, u4, u5, u6, u7, u8, u9, u10, u11, u12, u13, u14, u15, u16, u17, u18, u19, u20, u21, u22, u23, rfl⟩ := len24 hus
                    have e16 : u16 = .int .u16 (u : Int) := hI.fact 16 _ rfl (gen_after 16 (by kernel_rfl) hbp)
                    subst e16
                    have hch := hI.below
                    have HI := Veil.mk hI
                    clear hI
                    simp only [puts, setAll, List.setIfInBounds_toArray, List.set_cons_zero, List.set_cons_succ]
                    go_simp
                    exact hK _ _ (rf_step HI.out hus hbs hks 17 _ _ (by show 17 < 24; decide) rfl rfl hbp rfl (Below.refl _ _) (by simp only [puts, setAll, List.set_cons_zero, List.set_cons_succ, List.setIfInBounds_toArray]))
                  refine Steps.cons rfl (fun bb aa w' hbs hb0 hbp hI K hK => ?_) ?_
                  · obtain ⟨us, hus, rfl, hI⟩ := hI
                    obtain ⟨u0, u1, u2, u3, u4, u5, u6, u7, u8, u9, u10, u11, u12, u13, u14, u15, u16, u17, u18, u19, u20, u21, u22, u23, rfl⟩ := len24 hus
                    have e15 : u15 = .string ⟨#[48, 49, 50, 51, 52, 53, 54, 55, 56, 57, 97, 98, 99, 100, 101, 102]⟩ := hI.fact 15 _ rfl (gen_after 15 (by kernel_rfl) hbp)
                    subst e15
                    have e17 : u17 = .int .u16 (d4 : Int) := hI.fact 17 _ rfl (gen_after 17 (by kernel_rfl) hbp)
                    subst e17
                    have hch := hI.below
                    have HI := Veil.mk hI
                    clear hI
                    simp only [puts, setAll, List.setIfInBounds_toArray, List.set_cons_zero, List.set_cons_succ]
                    go_simp
                    exact hK _ _ (rf_step HI.out hus hbs hks 18 _ _ (by show 18 < 24; decide) rfl rfl hbp rfl (Below.refl _ _) (by simp only [puts, setAll, List.set_cons_zero, List.set_cons_succ, List.setIfInBounds_toArray]))
                  refine Steps.cons rfl (fun bb aa w' hbs hb0 hbp hI K hK => ?_) ?_
                  · obtain ⟨us, hus, rfl, hI⟩ := hI
                    obtain ⟨u0, u1, u2, u3, u4, u5, u6, u7, u8, u9, u10, u11, u12, u13, u14, u15, u16, u17, u18, u19, u20, u21, u22, u23, rfl⟩ := len24 hus
                    have e4 : u4 = .int .u8 (c1.toNat : Int) := hI.fact 4 _ rfl (gen_after 4 (by kernel_rfl) hbp)
                    subst e4
                    have e9 : u9 = .int .u8 (c2.toNat : Int) := hI.fact 9 _ rfl (gen_after 9 (by kernel_rfl) hbp)
                    subst e9
                    have e14 : u14 = .int .u8 (c3.toNat : Int) := hI.fact 14 _ rfl (gen_after 14 (by kernel_rfl) hbp)
                    subst e14
                    have e18 : u18 = .int .u8 (c4.toNat : Int) := hI.fact 18 _ rfl (gen_after 18 (by kernel_rfl) hbp)
                    subst e18
                    have hch := hI.below
                    have HI := Veil.mk hI
                    clear hI
                    simp only [puts, setAll, List.setIfInBounds_toArray, List.set_cons_zero, List.set_cons_succ]
                    go_simp
                    exact hK _ _ (rf_step HI.out hus hbs hks 19 _ (.slice (some ⟨w'.heap.size, 0, none⟩) 4 4) (by show 19 < 24; decide) rfl rfl hbp ⟨w'.heap.size, rfl, Box.new w' _ _⟩ ((Below.refl _ _).alloc (Nat.le_refl _) _) (by simp only [puts, setAll, List.set_cons_zero, List.set_cons_succ, List.setIfInBounds_toArray]))
                  refine Steps.cons rfl (fun bb aa w' hbs hb0 hbp hI K hK => ?_) ?_
                  · obtain ⟨us, hus, rfl, hI⟩ := hI
                    obtain ⟨u0, u1, u2, u3, u4, u5, u6, u7, u8, u9, u10, u11, u12, u13, u14, u15, u16, u17, u18, u19, u20, u21, u22, u23, rfl⟩ := len24 hus
                    have q19 := hI.fact 19 _ rfl (gen_after 19 (by kernel_rfl) hbp)
                    have hch := hI.below
                    have HI := Veil.mk hI
                    clear hI
                    simp only [puts, setAll, List.setIfInBounds_toArray, List.set_cons_zero, List.set_cons_succ]
                    obtain ⟨g19, e19, b19⟩ := q19
                    have e19 : u19 = .slice (some ⟨g19, 0, none⟩) 4 4 := e19
                    subst e19
                    have hcv := conv_four w' g19 c1 c2 c3 c4 b19
                    go_simp
                    exact hK _ _ (rf_step HI.out hus hbs hks 20 _ _ (by show 20 < 24; decide) rfl rfl hbp rfl (Below.refl _ _) (by simp only [puts, setAll, List.set_cons_zero, List.set_cons_succ, List.setIfInBounds_toArray]))
                  refine Steps.cons rfl (fun bb aa w' hbs hb0 hbp hI K hK => ?_) ?_
                  · obtain ⟨us, hus, rfl, hI⟩ := hI
                    obtain ⟨u0, u1, u2, u3, u4, u5, u6, u7, u8, u9, u10, u11, u12, u13, u14, u15, u16, u17, u18, u19, u20, u21, u22, u23, rfl⟩ := len24 hus
                    have e20 : u20 = .string ⟨#[c1, c2, c3, c4]⟩ := hI.fact 20 _ rfl (gen_after 20 (by kernel_rfl) hbp)
                    subst e20
                    have hch := hI.below
                    have HI := Veil.mk hI
                    clear hI
                    simp only [puts, setAll, List.setIfInBounds_toArray, List.set_cons_zero, List.set_cons_succ]
                    go_simp
                    exact hK _ _ (rf_step HI.out hus hbs hks 21 _ _ (by show 21 < 24; decide) rfl rfl hbp rfl (Below.refl _ _) (by simp only [puts, setAll, List.set_cons_zero, List.set_cons_succ, List.setIfInBounds_toArray]))
                  refine Steps.cons rfl (fun bb aa w' hbs hb0 hbp hI K hK => ?_) ?_
                  · obtain ⟨us, hus, rfl, hI⟩ := hI
                    obtain ⟨u0, u1, u2, u3, u4, u5, u6, u7, u8, u9, u10, u11, u12, u13, u14, u15, u16, u17, u18, u19, u20, u21, u22, u23, rfl⟩ := len24 hus
                    have e0 : u0 = .string (sB 39 true lk) := hI.fact 0 _ rfl (gen_after 0 (by kernel_rfl) hbp)
                    subst e0
                    have e21 : u21 = .string (⟨#[92, 117]⟩ ++ ⟨#[c1, c2, c3, c4]⟩) := hI.fact 21 _ rfl (gen_after 21 (by kernel_rfl) hbp)
                    subst e21
                    have hch := hI.below
                    have HI := Veil.mk hI
                    clear hI
                    simp only [puts, setAll, List.setIfInBounds_toArray, List.set_cons_zero, List.set_cons_succ]
                    have hs6 : ¬ 9223372036854775807 < (sB 39 true lk).size + 6 := by omega
                    go_simp
                    exact hK _ _ (rf_step HI.out hus hbs hks 22 _ _ (by show 22 < 24; decide) rfl rfl hbp rfl (Below.refl _ _) (by simp only [puts, setAll, List.set_cons_zero, List.set_cons_succ, List.setIfInBounds_toArray]))
                  refine Steps.cons rfl (fun bb aa w' hbs hb0 hbp hI K hK => ?_) ?_
                  · obtain ⟨us, hus, rfl, hI⟩ := hI
                    obtain ⟨u0, u1, u2, u3, u4, u5, u6, u7, u8, u9, u10, u11, u12, u13, u14, u15, u16, u17, u18, u19, u20, u21, u22, u23, rfl⟩ := len24 hus
                    have e22 : u22 = .string (sB 39 true lk ++ (⟨#[92, 117]⟩ ++ ⟨#[c1, c2, c3, c4]⟩)) := hI.fact 22 _ rfl (gen_after 22 (by kernel_rfl) hbp)
                    subst e22
                    have hch := hI.below
                    have HI := Veil.mk hI
                    clear hI
                    simp only [puts, setAll, List.setIfInBounds_toArray, List.set_cons_zero, List.set_cons_succ]
                    go_simp
                    exact hK _ _ (rf_step HI.out hus hbs hks 23 _ _ (by show 23 < 24; decide) rfl rfl hbp rfl (Below.refl _ _) (by simp only [puts, setAll, List.set_cons_zero, List.set_cons_succ, List.setIfInBounds_toArray]))
                  exact Steps.nil
                · intro us w' hus hd
                  obtain ⟨u0, u1, u2, u3, u4, u5, u6, u7, u8, u9, u10, u11, u12, u13, u14, u15, u16, u17, u18, u19, u20, u21, u22, u23, rfl⟩ := len24 hus
                  obtain ⟨hbW, hd⟩ := hd
                  have e0 : u0 = .string (sB 39 true lk) := hd 0 _ rfl
                  subst e0
                  have e1 : u1 = .string ⟨#[48, 49, 50, 51, 52, 53, 54, 55, 56, 57, 97, 98, 99, 100, 101, 102]⟩ := hd 1 _ rfl
                  subst e1
                  have e2 : u2 = .int .u16 (u : Int) := hd 2 _ rfl
                  subst e2
                  have e3 : u3 = .int .u16 ((u : Int) / 4096) := hd 3 _ rfl
                  subst e3
                  have e4 : u4 = .int .u8 (c1.toNat : Int) := hd 4 _ rfl
                  subst e4
                  have e5 : u5 = .string ⟨#[48, 49, 50, 51, 52, 53, 54, 55, 56, 57, 97, 98, 99, 100, 101, 102]⟩ := hd 5 _ rfl
                  subst e5
                  have e6 : u6 = .int .u16 (u : Int) := hd 6 _ rfl
                  subst e6
                  have e7 : u7 = .int .u16 ((u : Int) / 256) := hd 7 _ rfl
                  subst e7
                  have e8 : u8 = .int .u16 (d2 : Int) := hd 8 _ rfl
                  subst e8
                  have e9 : u9 = .int .u8 (c2.toNat : Int) := hd 9 _ rfl
                  subst e9
                  have e10 : u10 = .string ⟨#[48, 49, 50, 51, 52, 53, 54, 55, 56, 57, 97, 98, 99, 100, 101, 102]⟩ := hd 10 _ rfl
                  subst e10
                  have e11 : u11 = .int .u16 (u : Int) := hd 11 _ rfl
                  subst e11
                  have e12 : u12 = .int .u16 ((u : Int) / 16) := hd 12 _ rfl
                  subst e12
                  have e13 : u13 = .int .u16 (d3 : Int) := hd 13 _ rfl
                  subst e13
                  have e14 : u14 = .int .u8 (c3.toNat : Int) := hd 14 _ rfl
                  subst e14
                  have e15 : u15 = .string ⟨#[48, 49, 50, 51, 52, 53, 54, 55, 56, 57, 97, 98, 99, 100, 101, 102]⟩ := hd 15 _ rfl
                  subst e15
                  have e16 : u16 = .int .u16 (u : Int) := hd 16 _ rfl
                  subst e16
                  have e17 : u17 = .int .u16 (d4 : Int) := hd 17 _ rfl
                  subst e17
                  have e18 : u18 = .int .u8 (c4.toNat : Int) := hd 18 _ rfl
                  subst e18
                  have q19 := hd 19 _ rfl
                  have e20 : u20 = .string ⟨#[c1, c2, c3, c4]⟩ := hd 20 _ rfl
                  subst e20
                  have e21 : u21 = .string (⟨#[92, 117]⟩ ++ ⟨#[c1, c2, c3, c4]⟩) := hd 21 _ rfl
                  subst e21
                  have e22 : u22 = .string (sB 39 true lk ++ (⟨#[92, 117]⟩ ++ ⟨#[c1, c2, c3, c4]⟩)) := hd 22 _ rfl
                  subst e22
                  have e23 : u23 = .string (sB 39 true lk ++ (⟨#[92, 117]⟩ ++ ⟨#[c1, c2, c3, c4]⟩)) := hd 23 _ rfl
                  subst e23
                  clear hd
                  simp only [puts, setAll, List.setIfInBounds_toArray, List.set_cons_zero, List.set_cons_succ]
                  obtain ⟨g19, e19, b19⟩ := q19
                  have e19 : u19 = .slice (some ⟨g19, 0, none⟩) 4 4 := e19
                  subst e19
                  have HBW := Veil.mk hbW
                  clear hbW
                  go_wp2
                  exact HREL.out _ _ (by rw [← HAD.out, four_app]) HBW.out
      · have hkn' : ¬ (k : Int) < (n : Int) := by omega
        obtain rfl : k = n := by omega
        have hlk : l.length = k := HN1.out.1
        have htk : l.take k = l := List.take_of_length_le (by omega)
        rw [htk] at hown ⊢
        have hpl := pcsL_len true l
        have hzs := sB_size 39 true l
        have hsz : (sB 39 true l).size ≤ 4000 := by omega
        obtain ⟨p, hp⟩ : ∃ p, (pcsL true l).length + 2 = p := ⟨_, rfl⟩
        obtain ⟨X, hX⟩ : ∃ X : ByteArray, (⟨(unsL l).toArray⟩ : ByteArray) = X := ⟨_, rfl⟩
        have HPE : Veil (((p : Int) == IntKind.i64.wrap (((sB 39 true l).size : Int) + 1)) = true) := ⟨by rw [IntKind.wrap_i64, show (((((sB 39 true l).size : Int) + 1) + 9223372036854775808) % 18446744073709551616 - 9223372036854775808) = (p : Int) by omega]; exact beq_self_eq_true _⟩
        obtain ⟨a2, cap2, hwv, hN2⟩ := W.own_nums (l := l) (by rw [hlk]; exact hown)
        rw [hlk] at hwv
        subst hwv
        have hs1 : ¬ 9223372036854775807 < (sB 39 true l).size + 1 := by omega
        have HG2 : Veil (Gl wr) := ⟨HG1.out.on HBE.out⟩
        have HST : Veil (∀ w, Below wr.heap.size wr w → Calls Tryd.prog 9 #[.slice a2 l.length cap2] w fun e w' => e = .returned (.string X) ∧ Below w.heap.size w w') := ⟨fun w hb => by
          have h := W.str_any a2 l.length cap2 l (by omega) HLT.out w (hN2.on hb)
          rw [flat_u2, hX] at h
          exact h⟩
        have HSC : Veil (∀ w, Gl w → Calls Tryd.prog 7 #[.string (sB 39 true l ++ ⟨#[39]⟩)] w fun e w' => ∃ g cap, e = .returned (.tuple #[.slice (some ⟨g, 0, none⟩) 2 cap, .agg #[.int .i64 0, .int .i64 0]]) ∧ Below w.heap.size w w' ∧ w'.ownsRow w.heap.size 31 4 (.slice (some ⟨g, 0, none⟩) 2 cap) 2 (tkFlat [(⟨4, unsL l, 0, p⟩, 0), (⟨0, [], 0, 0⟩, p)])) := ⟨fun w hg => scan_str 39 true (by decide) l HLT.out (by omega) p hp w hg⟩
        have HLK := Veil.mk hlk
        clear hpl hzs hp hN2 hown htk
        rw [hlk] at HST
        clear hlk
        go_upto_region 24 with (first | (go_at_call 7; ((with_reducible refine (HSC.out _ HG2.out).mono ?_); rintro e9 w2 ⟨g, cap, rfl, hb2, ho2⟩)))
        have hb3 : Below wr.heap.size wr (w2.alloc (.cells #[.int .i64 0, .int .i64 0] 27)) := hb2.alloc hb2.size _
        have ho3 := ho2.alloc (.cells #[.int .i64 0, .int .i64 0] 27)
        have bf : Box (w2.alloc (.cells #[.int .i64 0, .int .i64 0] 27)) w2.heap.size 27 #[.int .i64 0, .int .i64 0] := Box.new _ _ _
        generalize w2.alloc (.cells #[.int .i64 0, .int .i64 0] 27) = W3 at hb3 ho3 bf ⊢
        have C0 : Veil (W3.cell? ⟨w2.heap.size, 0, none⟩ = some (.int .i64 0)) := ⟨bf.at_ 0⟩
        have R0 : Veil (W3.cell? ⟨g, 0, none⟩ = some (.int .i64 4)) := ⟨ho3.cellAt 0 (by omega)⟩
        have R1 : Veil (W3.cell? ⟨g, 1, none⟩ = some (.string X)) := ⟨by rw [← hX]; exact ho3.cellAt 1 (by omega)⟩
        have R6 : Veil (W3.cell? ⟨g, 6, none⟩ = some (.int .i64 (p : Int))) := ⟨ho3.cellAt 6 (by omega)⟩
        have LF : Veil (w2.heap.size < W3.heap.size) := ⟨bf.lt⟩
        have LG : Veil (g < W3.heap.size) := ⟨World.block_lt_of_cell? W3 _ R0.out⟩
        have HB3 := Veil.mk hb3
        clear hb2 ho2 hb3 ho3 bf hX
        have hks : KeepsAll (Is (.pointer (some ⟨w2.heap.size, 0, none⟩)) :: Is (.int .i64 0) :: Is (.bool true) :: Is (.bool true) :: Is (.slice (some ⟨g, 0, none⟩) 2 cap) :: Is (.int .i64 2) :: Is (.bool true) :: Is (.bool true) :: Is (.bool true) :: Is (.slice (some ⟨g, 0, none⟩) 2 cap) :: Is (.pointer (some ⟨g, 0, none⟩)) :: Is (.pointer (some ⟨g, 0, none⟩)) :: Is (.int .i64 4) :: Is (.bool true) :: Is (.bool true) :: Is (.bool true) :: Is (.slice (some ⟨g, 0, none⟩) 2 cap) :: Is (.pointer (some ⟨g, 0, none⟩)) :: Is (.pointer (some ⟨g, 1, none⟩)) :: Is (.string X) :: Is (.slice a2 k cap2) :: Is (.string X) :: Is (.bool true) :: Is (.bool true) :: Is (.bool true) :: Is (.slice (some ⟨g, 0, none⟩) 2 cap) :: Is (.pointer (some ⟨g, 4, none⟩)) :: Is (.pointer (some ⟨g, 6, none⟩)) :: Is (.int .i64 (p : Int)) :: Is (.string (sB 39 true l)) :: Is (.int .i64 ((sB 39 true l).size : Int)) :: Is (.int .i64 (IntKind.i64.wrap (((sB 39 true l).size : Int) + 1))) :: Is (.bool true) :: Is (.bool true) :: Is (.bool true) :: [] : List (Value → World → Prop)) := ⟨keeps_is _, keeps_is _, keeps_is _, keeps_is _, keeps_is _, keeps_is _, keeps_is _, keeps_is _, keeps_is _, keeps_is _, keeps_is _, keeps_is _, keeps_is _, keeps_is _, keeps_is _, keeps_is _, keeps_is _, keeps_is _, keeps_is _, keeps_is _, keeps_is _, keeps_is _, keeps_is _, keeps_is _, keeps_is _, keeps_is _, keeps_is _, keeps_is _, keeps_is _, keeps_is _, keeps_is _, keeps_is _, keeps_is _, keeps_is _, keeps_is _, trivial⟩
        refine wp_region_rf (Is (.pointer (some ⟨w2.heap.size, 0, none⟩)) :: Is (.int .i64 0) :: Is (.bool true) :: Is (.bool true) :: Is (.slice (some ⟨g, 0, none⟩) 2 cap) :: Is (.int .i64 2) :: Is (.bool true) :: Is (.bool true) :: Is (.bool true) :: Is (.slice (some ⟨g, 0, none⟩) 2 cap) :: Is (.pointer (some ⟨g, 0, none⟩)) :: Is (.pointer (some ⟨g, 0, none⟩)) :: Is (.int .i64 4) :: Is (.bool true) :: Is (.bool true) :: Is (.bool true) :: Is (.slice (some ⟨g, 0, none⟩) 2 cap) :: Is (.pointer (some ⟨g, 0, none⟩)) :: Is (.pointer (some ⟨g, 1, none⟩)) :: Is (.string X) :: Is (.slice a2 k cap2) :: Is (.string X) :: Is (.bool true) :: Is (.bool true) :: Is (.bool true) :: Is (.slice (some ⟨g, 0, none⟩) 2 cap) :: Is (.pointer (some ⟨g, 4, none⟩)) :: Is (.pointer (some ⟨g, 6, none⟩)) :: Is (.int .i64 (p : Int)) :: Is (.string (sB 39 true l)) :: Is (.int .i64 ((sB 39 true l).size : Int)) :: Is (.int .i64 (IntKind.i64.wrap (((sB 39 true l).size : Int) + 1))) :: Is (.bool true) :: Is (.bool true) :: Is (.bool true) :: [] : List (Value → World → Prop)) [some 102, some 103, some 104, some 105, some 106, some 107, some 108, some 109, some 110, some 111, some 112, some 113, some 114, some 115, some 116, some 117, some 118, some 119, some 120, some 121, some 122, some 123, some 124, some 125, some 126, some 127, some 128, some 129, some 130, some 131, some 132, some 133, some 134, some 135, some 4] (by kernel_rfl) rfl rfl ?_ (by kernel_rfl) ?_
        · refine Steps.cons rfl (fun bb aa w' hbs hb0 hbp hI K hK => ?_) ?_
          · obtain ⟨us, hus, rfl, hI⟩ := hI
            obtain ⟨u0, u1, u2, u3, u4, u5, u6, u7, u8, u9, u10, u11, u12, u13, u14, u15, u16, u17, u18, u19, u20, u21, u22, u23, u24, u25, u26, u27, u28, u29, u30, u31, u32, u33, u34, rfl⟩ := len35 hus
            have hch := hI.below
            have HI := Veil.mk hI
            clear hI
            simp only [puts, setAll, List.setIfInBounds_toArray, List.set_cons_zero, List.set_cons_succ]
            go_simp
            exact hK _ _ (rf_step HI.out hus hbs hks 0 _ _ (by show 0 < 35; decide) rfl rfl hbp rfl (Below.refl _ _) (by simp only [puts, setAll, List.set_cons_zero, List.set_cons_succ, List.setIfInBounds_toArray]))
          refine Steps.cons rfl (fun bb aa w' hbs hb0 hbp hI K hK => ?_) ?_
          · obtain ⟨us, hus, rfl, hI⟩ := hI
            obtain ⟨u0, u1, u2, u3, u4, u5, u6, u7, u8, u9, u10, u11, u12, u13, u14, u15, u16, u17, u18, u19, u20, u21, u22, u23, u24, u25, u26, u27, u28, u29, u30, u31, u32, u33, u34, rfl⟩ := len35 hus
            have e0 : u0 = .pointer (some ⟨w2.heap.size, 0, none⟩) := hI.fact 0 _ rfl (gen_after 0 (by kernel_rfl) hbp)
            subst e0
            have hch := hI.below
            have HI := Veil.mk hI
            clear hI
            simp only [puts, setAll, List.setIfInBounds_toArray, List.set_cons_zero, List.set_cons_succ]
            have k0 : w'.cell? ⟨w2.heap.size, 0, none⟩ = some (.int .i64 0) := by rw [hch.cell (p := ⟨w2.heap.size, 0, none⟩) LF.out]; exact C0.out
            go_simp
            exact hK _ _ (rf_step HI.out hus hbs hks 1 _ _ (by show 1 < 35; decide) rfl rfl hbp rfl (Below.refl _ _) (by simp only [puts, setAll, List.set_cons_zero, List.set_cons_succ, List.setIfInBounds_toArray]))
          refine Steps.cons rfl (fun bb aa w' hbs hb0 hbp hI K hK => ?_) ?_
          · obtain ⟨us, hus, rfl, hI⟩ := hI
            obtain ⟨u0, u1, u2, u3, u4, u5, u6, u7, u8, u9, u10, u11, u12, u13, u14, u15, u16, u17, u18, u19, u20, u21, u22, u23, u24, u25, u26, u27, u28, u29, u30, u31, u32, u33, u34, rfl⟩ := len35 hus
            have e1 : u1 = .int .i64 0 := hI.fact 1 _ rfl (gen_after 1 (by kernel_rfl) hbp)
            subst e1
            have hch := hI.below
            have HI := Veil.mk hI
            clear hI
            simp only [puts, setAll, List.setIfInBounds_toArray, List.set_cons_zero, List.set_cons_succ]
            go_simp
            exact hK _ _ (rf_step HI.out hus hbs hks 2 _ _ (by show 2 < 35; decide) rfl rfl hbp rfl (Below.refl _ _) (by simp only [puts, setAll, List.set_cons_zero, List.set_cons_succ, List.setIfInBounds_toArray]))
          refine Steps.cons rfl (fun bb aa w' hbs hb0 hbp hI K hK => ?_) ?_
          · obtain ⟨us, hus, rfl, hI⟩ := hI
            obtain ⟨u0, u1, u2, u3, u4, u5, u6, u7, u8, u9, u10, u11, u12, u13, u14, u15, u16, u17, u18, u19, u20, u21, u22, u23, u24, u25, u26, u27, u28, u29, u30, u31, u32, u33, u34, rfl⟩ := len35 hus
            have e2 : u2 = .bool true := hI.fact 2 _ rfl (gen_after 2 (by kernel_rfl) hbp)
            subst e2
            have hch := hI.below
            have HI := Veil.mk hI
            clear hI
            simp only [puts, setAll, List.setIfInBounds_toArray, List.set_cons_zero, List.set_cons_succ]
            go_simp
            exact hK _ _ (rf_step HI.out hus hbs hks 3 _ _ (by show 3 < 35; decide) rfl rfl hbp rfl (Below.refl _ _) (by simp only [puts, setAll, List.set_cons_zero, List.set_cons_succ, List.setIfInBounds_toArray]))
          refine Steps.consG (fun bb aa w' hbs hb0 hbp hI K hK => ?_) ?_
          · obtain ⟨us, hus, rfl, hI⟩ := hI
            obtain ⟨u0, u1, u2, u3, u4, u5, u6, u7, u8, u9, u10, u11, u12, u13, u14, u15, u16, u17, u18, u19, u20, u21, u22, u23, u24, u25, u26, u27, u28, u29, u30, u31, u32, u33, u34, rfl⟩ := len35 hus
            have e3 : u3 = .bool true := hI.fact 3 _ rfl (gen_after 3 (by kernel_rfl) hbp)
            subst e3
            have hch := hI.below
            have HI := Veil.mk hI
            clear hI
            simp only [puts, setAll, List.setIfInBounds_toArray, List.set_cons_zero, List.set_cons_succ]
            rw [if_pos (by rfl)]
            go_simp
            exact hK _ _ (rf_step HI.out hus hbs hks 4 _ _ (by show 4 < 35; decide) rfl rfl hbp rfl (Below.refl _ _) (by simp only [puts, setAll, List.set_cons_zero, List.set_cons_succ, List.setIfInBounds_toArray]))
          refine Steps.consG (fun bb aa w' hbs hb0 hbp hI K hK => ?_) ?_
          · obtain ⟨us, hus, rfl, hI⟩ := hI
            obtain ⟨u0, u1, u2, u3, u4, u5, u6, u7, u8, u9, u10, u11, u12, u13, u14, u15, u16, u17, u18, u19, u20, u21, u22, u23, u24, u25, u26, u27, u28, u29, u30, u31, u32, u33, u34, rfl⟩ := len35 hus
            have e3 : u3 = .bool true := hI.fact 3 _ rfl (gen_after 3 (by kernel_rfl) hbp)
            subst e3
            have e4 : u4 = .slice (some ⟨g, 0, none⟩) 2 cap := hI.fact 4 _ rfl (gen_after 4 (by kernel_rfl) hbp)
            subst e4
            have hch := hI.below
            have HI := Veil.mk hI
            clear hI
            simp only [puts, setAll, List.setIfInBounds_toArray, List.set_cons_zero, List.set_cons_succ]
            rw [if_pos (by rfl)]
            go_simp
            exact hK _ _ (rf_step HI.out hus hbs hks 5 _ _ (by show 5 < 35; decide) rfl rfl hbp rfl (Below.refl _ _) (by simp only [puts, setAll, List.set_cons_zero, List.set_cons_succ, List.setIfInBounds_toArray]))
          refine Steps.consG (fun bb aa w' hbs hb0 hbp hI K hK => ?_) ?_
          · obtain ⟨us, hus, rfl, hI⟩ := hI
            obtain ⟨u0, u1, u2, u3, u4, u5, u6, u7, u8, u9, u10, u11, u12, u13, u14, u15, u16, u17, u18, u19, u20, u21, u22, u23, u24, u25, u26, u27, u28, u29, u30, u31, u32, u33, u34, rfl⟩ := len35 hus
            have e3 : u3 = .bool true := hI.fact 3 _ rfl (gen_after 3 (by kernel_rfl) hbp)
            subst e3
            have e5 : u5 = .int .i64 2 := hI.fact 5 _ rfl (gen_after 5 (by kernel_rfl) hbp)
            subst e5
            have hch := hI.below
            have HI := Veil.mk hI
            clear hI
            simp only [puts, setAll, List.setIfInBounds_toArray, List.set_cons_zero, List.set_cons_succ]
            rw [if_pos (by rfl)]
            go_simp
            exact hK _ _ (rf_step HI.out hus hbs hks 6 _ _ (by show 6 < 35; decide) rfl rfl hbp rfl (Below.refl _ _) (by simp only [puts, setAll, List.set_cons_zero, List.set_cons_succ, List.setIfInBounds_toArray]))
          refine Steps.cons rfl (fun bb aa w' hbs hb0 hbp hI K hK => ?_) ?_
          · obtain ⟨us, hus, rfl, hI⟩ := hI
            obtain ⟨u0, u1, u2, u3, u4, u5, u6, u7, u8, u9, u10, u11, u12, u13, u14, u15, u16, u17, u18, u19, u20, u21, u22, u23, u24, u25, u26, u27, u28, u29, u30, u31, u32, u33, u34, rfl⟩ := len35 hus
            have e3 : u3 = .bool true := hI.fact 3 _ rfl (gen_after 3 (by kernel_rfl) hbp)
            subst e3
            have e6 : u6 = .bool true := hI.fact 6 _ rfl (gen_after 6 (by kernel_rfl) hbp)
            subst e6
            have hch := hI.below
            have HI := Veil.mk hI
            clear hI
            simp only [puts, setAll, List.setIfInBounds_toArray, List.set_cons_zero, List.set_cons_succ]
            go_simp
            exact hK _ _ (rf_step HI.out hus hbs hks 7 _ _ (by show 7 < 35; decide) rfl rfl hbp rfl (Below.refl _ _) (by simp only [puts, setAll, List.set_cons_zero, List.set_cons_succ, List.setIfInBounds_toArray]))
          refine Steps.cons rfl (fun bb aa w' hbs hb0 hbp hI K hK => ?_) ?_
          · obtain ⟨us, hus, rfl, hI⟩ := hI
            obtain ⟨u0, u1, u2, u3, u4, u5, u6, u7, u8, u9, u10, u11, u12, u13, u14, u15, u16, u17, u18, u19, u20, u21, u22, u23, u24, u25, u26, u27, u28, u29, u30, u31, u32, u33, u34, rfl⟩ := len35 hus
            have e7 : u7 = .bool true := hI.fact 7 _ rfl (gen_after 7 (by kernel_rfl) hbp)
            subst e7
            have hch := hI.below
            have HI := Veil.mk hI
            clear hI
            simp only [puts, setAll, List.setIfInBounds_toArray, List.set_cons_zero, List.set_cons_succ]
            go_simp
            exact hK _ _ (rf_step HI.out hus hbs hks 8 _ _ (by show 8 < 35; decide) rfl rfl hbp rfl (Below.refl _ _) (by simp only [puts, setAll, List.set_cons_zero, List.set_cons_succ, List.setIfInBounds_toArray]))
          refine Steps.consG (fun bb aa w' hbs hb0 hbp hI K hK => ?_) ?_
          · obtain ⟨us, hus, rfl, hI⟩ := hI
            obtain ⟨u0, u1, u2, u3, u4, u5, u6, u7, u8, u9, u10, u11, u12, u13, u14, u15, u16, u17, u18, u19, u20, u21, u22, u23, u24, u25, u26, u27, u28, u29, u30, u31, u32, u33, u34, rfl⟩ := len35 hus
            have e8 : u8 = .bool true := hI.fact 8 _ rfl (gen_after 8 (by kernel_rfl) hbp)
            subst e8
            have hch := hI.below
            have HI := Veil.mk hI
            clear hI
            simp only [puts, setAll, List.setIfInBounds_toArray, List.set_cons_zero, List.set_cons_succ]
            rw [if_pos (by rfl)]
            go_simp
            exact hK _ _ (rf_step HI.out hus hbs hks 9 _ _ (by show 9 < 35; decide) rfl rfl hbp rfl (Below.refl _ _) (by simp only [puts, setAll, List.set_cons_zero, List.set_cons_succ, List.setIfInBounds_toArray]))
          refine Steps.consG (fun bb aa w' hbs hb0 hbp hI K hK => ?_) ?_
          · obtain ⟨us, hus, rfl, hI⟩ := hI
            obtain ⟨u0, u1, u2, u3, u4, u5, u6, u7, u8, u9, u10, u11, u12, u13, u14, u15, u16, u17, u18, u19, u20, u21, u22, u23, u24, u25, u26, u27, u28, u29, u30, u31, u32, u33, u34, rfl⟩ := len35 hus
            have e8 : u8 = .bool true := hI.fact 8 _ rfl (gen_after 8 (by kernel_rfl) hbp)
            subst e8
            have e9 : u9 = .slice (some ⟨g, 0, none⟩) 2 cap := hI.fact 9 _ rfl (gen_after 9 (by kernel_rfl) hbp)
            subst e9
            have hch := hI.below
            have HI := Veil.mk hI
            clear hI
            simp only [puts, setAll, List.setIfInBounds_toArray, List.set_cons_zero, List.set_cons_succ]
            rw [if_pos (by rfl)]
            go_simp
            exact hK _ _ (rf_step HI.out hus hbs hks 10 _ _ (by show 10 < 35; decide) rfl rfl hbp rfl (Below.refl _ _) (by simp only [puts, setAll, List.set_cons_zero, List.set_cons_succ, List.setIfInBounds_toArray]))
          refine Steps.consG (fun bb aa w' hbs hb0 hbp hI K hK => ?_) ?_
          · obtain ⟨us, hus, rfl, hI⟩ := hI
            obtain ⟨u0, u1, u2, u3, u4, u5, u6, u7, u8, u9, u10, u11, u12, u13, u14, u15, u16, u17, u18, u19, u20, u21, u22, u23, u24, u25, u26, u27, u28, u29, u30, u31, u32, u33, u34, rfl⟩ := len35 hus
            have e8 : u8 = .bool true := hI.fact 8 _ rfl (gen_after 8 (by kernel_rfl) hbp)
            subst e8
            have e10 : u10 = .pointer (some ⟨g, 0, none⟩) := hI.fact 10 _ rfl (gen_after 10 (by kernel_rfl) hbp)
            subst e10
            have hch := hI.below
            have HI := Veil.mk hI
            clear hI
            simp only [puts, setAll, List.setIfInBounds_toArray, List.set_cons_zero, List.set_cons_succ]
            rw [if_pos (by rfl)]
            go_simp
            exact hK _ _ (rf_step HI.out hus hbs hks 11 _ _ (by show 11 < 35; decide) rfl rfl hbp rfl (Below.refl _ _) (by simp only [puts, setAll, List.set_cons_zero, List.set_cons_succ, List.setIfInBounds_toArray]))
          refine Steps.consG (fun bb aa w' hbs hb0 hbp hI K hK => ?_) ?_
          · obtain ⟨us, hus, rfl, hI⟩ := hI
            obtain ⟨u0, u1, u2, u3, u4, u5, u6, u7, u8, u9, u10, u11, u12, u13, u14, u15, u16, u17, u18, u19, u20, u21, u22, u23, u24, u25, u26, u27, u28, u29, u30, u31, u32, u33, u34, rfl⟩ := len35 hus
            have e8 : u8 = .bool true := hI.fact 8 _ rfl (gen_after 8 (by kernel_rfl) hbp)
            subst e8
            have e11 : u11 = .pointer (some ⟨g, 0, none⟩) := hI.fact 11 _ rfl (gen_after 11 (by kernel_rfl) hbp)
            subst e11
            have hch := hI.below
            have HI := Veil.mk hI
            clear hI
            simp only [puts, setAll, List.setIfInBounds_toArray, List.set_cons_zero, List.set_cons_succ]
            have k0 : w'.cell? ⟨g, 0, none⟩ = some (.int .i64 4) := by rw [hch.cell (p := ⟨g, 0, none⟩) LG.out]; exact R0.out
            rw [if_pos (by rfl)]
            go_simp
            exact hK _ _ (rf_step HI.out hus hbs hks 12 _ _ (by show 12 < 35; decide) rfl rfl hbp rfl (Below.refl _ _) (by simp only [puts, setAll, List.set_cons_zero, List.set_cons_succ, List.setIfInBounds_toArray]))
          refine Steps.consG (fun bb aa w' hbs hb0 hbp hI K hK => ?_) ?_
          · obtain ⟨us, hus, rfl, hI⟩ := hI
            obtain ⟨u0, u1, u2, u3, u4, u5, u6, u7, u8, u9, u10, u11, u12, u13, u14, u15, u16, u17, u18, u19, u20, u21, u22, u23, u24, u25, u26, u27, u28, u29, u30, u31, u32, u33, u34, rfl⟩ := len35 hus
            have e8 : u8 = .bool true := hI.fact 8 _ rfl (gen_after 8 (by kernel_rfl) hbp)
            subst e8
            have e12 : u12 = .int .i64 4 := hI.fact 12 _ rfl (gen_after 12 (by kernel_rfl) hbp)
            subst e12
            have hch := hI.below
            have HI := Veil.mk hI
            clear hI
            simp only [puts, setAll, List.setIfInBounds_toArray, List.set_cons_zero, List.set_cons_succ]
            rw [if_pos (by rfl)]
            go_simp
            exact hK _ _ (rf_step HI.out hus hbs hks 13 _ _ (by show 13 < 35; decide) rfl rfl hbp rfl (Below.refl _ _) (by simp only [puts, setAll, List.set_cons_zero, List.set_cons_succ, List.setIfInBounds_toArray]))
          refine Steps.cons rfl (fun bb aa w' hbs hb0 hbp hI K hK => ?_) ?_
          · obtain ⟨us, hus, rfl, hI⟩ := hI
            obtain ⟨u0, u1, u2, u3, u4, u5, u6, u7, u8, u9, u10, u11, u12, u13, u14, u15, u16, u17, u18, u19, u20, u21, u22, u23, u24, u25, u26, u27, u28, u29, u30, u31, u32, u33, u34, rfl⟩ := len35 hus
            have e8 : u8 = .bool true := hI.fact 8 _ rfl (gen_after 8 (by kernel_rfl) hbp)
            subst e8
            have e13 : u13 = .bool true := hI.fact 13 _ rfl (gen_after 13 (by kernel_rfl) hbp)
            subst e13
            have hch := hI.below
            have HI := Veil.mk hI
            clear hI
            simp only [puts, setAll, List.setIfInBounds_toArray, List.set_cons_zero, List.set_cons_succ]
            go_simp
            exact hK _ _ (rf_step HI.out hus hbs hks 14 _ _ (by show 14 < 35; decide) rfl rfl hbp rfl (Below.refl _ _) (by simp only [puts, setAll, List.set_cons_zero, List.set_cons_succ, List.setIfInBounds_toArray]))
          refine Steps.cons rfl (fun bb aa w' hbs hb0 hbp hI K hK => ?_) ?_
          · obtain ⟨us, hus, rfl, hI⟩ := hI
            obtain ⟨u0, u1, u2, u3, u4, u5, u6, u7, u8, u9, u10, u11, u12, u13, u14, u15, u16, u17, u18, u19, u20, u21, u22, u23, u24, u25, u26, u27, u28, u29, u30, u31, u32, u33, u34, rfl⟩ := len35 hus
            have e14 : u14 = .bool true := hI.fact 14 _ rfl (gen_after 14 (by kernel_rfl) hbp)
            subst e14
            have hch := hI.below
            have HI := Veil.mk hI
            clear hI
            simp only [puts, setAll, List.setIfInBounds_toArray, List.set_cons_zero, List.set_cons_succ]
            go_simp
            exact hK _ _ (rf_step HI.out hus hbs hks 15 _ _ (by show 15 < 35; decide) rfl rfl hbp rfl (Below.refl _ _) (by simp only [puts, setAll, List.set_cons_zero, List.set_cons_succ, List.setIfInBounds_toArray]))
          refine Steps.consG (fun bb aa w' hbs hb0 hbp hI K hK => ?_) ?_
          · obtain ⟨us, hus, rfl, hI⟩ := hI
            obtain ⟨u0, u1, u2, u3, u4, u5, u6, u7, u8, u9, u10, u11, u12, u13, u14, u15, u16, u17, u18, u19, u20, u21, u22, u23, u24, u25, u26, u27, u28, u29, u30, u31, u32, u33, u34, rfl⟩ := len35 hus
            have e15 : u15 = .bool true := hI.fact 15 _ rfl (gen_after 15 (by kernel_rfl) hbp)
            subst e15
            have hch := hI.below
            have HI := Veil.mk hI
            clear hI
            simp only [puts, setAll, List.setIfInBounds_toArray, List.set_cons_zero, List.set_cons_succ]
            rw [if_pos (by rfl)]
            go_simp
            exact hK _ _ (rf_step HI.out hus hbs hks 16 _ _ (by show 16 < 35; decide) rfl rfl hbp rfl (Below.refl _ _) (by simp only [puts, setAll, List.set_cons_zero, List.set_cons_succ, List.setIfInBounds_toArray]))
          refine Steps.consG (fun bb aa w' hbs hb0 hbp hI K hK => ?_) ?_
          · obtain ⟨us, hus, rfl, hI⟩ := hI
            obtain ⟨u0, u1, u2, u3, u4, u5, u6, u7, u8, u9, u10, u11, u12, u13, u14, u15, u16, u17, u18, u19, u20, u21, u22, u23, u24, u25, u26, u27, u28, u29, u30, u31, u32, u33, u34, rfl⟩ := len35 hus
            have e15 : u15 = .bool true := hI.fact 15 _ rfl (gen_after 15 (by kernel_rfl) hbp)
            subst e15
            have e16 : u16 = .slice (some ⟨g, 0, none⟩) 2 cap := hI.fact 16 _ rfl (gen_after 16 (by kernel_rfl) hbp)
            subst e16
            have hch := hI.below
            have HI := Veil.mk hI
            clear hI
            simp only [puts, setAll, List.setIfInBounds_toArray, List.set_cons_zero, List.set_cons_succ]
            rw [if_pos (by rfl)]
            go_simp
            exact hK _ _ (rf_step HI.out hus hbs hks 17 _ _ (by show 17 < 35; decide) rfl rfl hbp rfl (Below.refl _ _) (by simp only [puts, setAll, List.set_cons_zero, List.set_cons_succ, List.setIfInBounds_toArray]))
          refine Steps.consG (fun bb aa w' hbs hb0 hbp hI K hK => ?_) ?_
          · obtain ⟨us, hus, rfl, hI⟩ := hI
            obtain ⟨u0, u1, u2, u3, u4, u5, u6, u7, u8, u9, u10, u11, u12, u13, u14, u15, u16, u17, u18, u19, u20, u21, u22, u23, u24, u25, u26, u27, u28, u29, u30, u31, u32, u33, u34, rfl⟩ := len35 hus
            have e15 : u15 = .bool true := hI.fact 15 _ rfl (gen_after 15 (by kernel_rfl) hbp)
            subst e15
            have e17 : u17 = .pointer (some ⟨g, 0, none⟩) := hI.fact 17 _ rfl (gen_after 17 (by kernel_rfl) hbp)
            subst e17
            have hch := hI.below
            have HI := Veil.mk hI
            clear hI
            simp only [puts, setAll, List.setIfInBounds_toArray, List.set_cons_zero, List.set_cons_succ]
            rw [if_pos (by rfl)]
            go_simp
            exact hK _ _ (rf_step HI.out hus hbs hks 18 _ _ (by show 18 < 35; decide) rfl rfl hbp rfl (Below.refl _ _) (by simp only [puts, setAll, List.set_cons_zero, List.set_cons_succ, List.setIfInBounds_toArray]))
          refine Steps.consG (fun bb aa w' hbs hb0 hbp hI K hK => ?_) ?_
          · obtain ⟨us, hus, rfl, hI⟩ := hI
            obtain ⟨u0, u1, u2, u3, u4, u5, u6, u7, u8, u9, u10, u11, u12, u13, u14, u15, u16, u17, u18, u19, u20, u21, u22, u23, u24, u25, u26, u27, u28, u29, u30, u31, u32, u33, u34, rfl⟩ := len35 hus
            have e15 : u15 = .bool true := hI.fact 15 _ rfl (gen_after 15 (by kernel_rfl) hbp)
            subst e15
            have e18 : u18 = .pointer (some ⟨g, 1, none⟩) := hI.fact 18 _ rfl (gen_after 18 (by kernel_rfl) hbp)
            subst e18
            have hch := hI.below
            have HI := Veil.mk hI
            clear hI
            simp only [puts, setAll, List.setIfInBounds_toArray, List.set_cons_zero, List.set_cons_succ]
            have k0 : w'.cell? ⟨g, 1, none⟩ = some (.string X) := by rw [hch.cell (p := ⟨g, 1, none⟩) LG.out]; exact R1.out
            rw [if_pos (by rfl)]
            go_simp
            exact hK _ _ (rf_step HI.out hus hbs hks 19 _ _ (by show 19 < 35; decide) rfl rfl hbp rfl (Below.refl _ _) (by simp only [puts, setAll, List.set_cons_zero, List.set_cons_succ, List.setIfInBounds_toArray]))
          refine Steps.consG (fun bb aa w' hbs hb0 hbp hI K hK => ?_) ?_
          · obtain ⟨us, hus, rfl, hI⟩ := hI
            obtain ⟨u0, u1, u2, u3, u4, u5, u6, u7, u8, u9, u10, u11, u12, u13, u14, u15, u16, u17, u18, u19, u20, u21, u22, u23, u24, u25, u26, u27, u28, u29, u30, u31, u32, u33, u34, rfl⟩ := len35 hus
            have e15 : u15 = .bool true := hI.fact 15 _ rfl (gen_after 15 (by kernel_rfl) hbp)
            subst e15
            have hch := hI.below
            have HI := Veil.mk hI
            clear hI
            simp only [puts, setAll, List.setIfInBounds_toArray, List.set_cons_zero, List.set_cons_succ]
            rw [if_pos (by rfl)]
            go_simp
            exact hK _ _ (rf_step HI.out hus hbs hks 20 _ _ (by show 20 < 35; decide) rfl rfl hbp rfl (Below.refl _ _) (by simp only [puts, setAll, List.set_cons_zero, List.set_cons_succ, List.setIfInBounds_toArray]))
          refine Steps.consG (fun bb aa w' hbs hb0 hbp hI K hK => ?_) ?_
          · obtain ⟨us, hus, rfl, hI⟩ := hI
            obtain ⟨u0, u1, u2, u3, u4, u5, u6, u7, u8, u9, u10, u11, u12, u13, u14, u15, u16, u17, u18, u19, u20, u21, u22, u23, u24, u25, u26, u27, u28, u29, u30, u31, u32, u33, u34, rfl⟩ := len35 hus
            have e15 : u15 = .bool true := hI.fact 15 _ rfl (gen_after 15 (by kernel_rfl) hbp)
            subst e15
            have e20 : u20 = .slice a2 k cap2 := hI.fact 20 _ rfl (gen_after 20 (by kernel_rfl) hbp)
            subst e20
            have hch := hI.below
            have HI := Veil.mk hI
            clear hI
            simp only [puts, setAll, List.setIfInBounds_toArray, List.set_cons_zero, List.set_cons_succ]
            rw [if_pos (by rfl)]
            go_simp
            go_at_call 9
            refine (HST.out _ (HB3.out.trans (hch.mono HB3.out.size))).mono ?_
            rintro e9 w9 ⟨rfl, hb9⟩
            go_simp
            exact hK _ _ (rf_step HI.out hus hbs hks 21 _ _ (by show 21 < 35; decide) rfl rfl hbp rfl hb9 (by simp only [puts, setAll, List.set_cons_zero, List.set_cons_succ, List.setIfInBounds_toArray]))
          refine Steps.consG (fun bb aa w' hbs hb0 hbp hI K hK => ?_) ?_
          · obtain ⟨us, hus, rfl, hI⟩ := hI
            obtain ⟨u0, u1, u2, u3, u4, u5, u6, u7, u8, u9, u10, u11, u12, u13, u14, u15, u16, u17, u18, u19, u20, u21, u22, u23, u24, u25, u26, u27, u28, u29, u30, u31, u32, u33, u34, rfl⟩ := len35 hus
            have e15 : u15 = .bool true := hI.fact 15 _ rfl (gen_after 15 (by kernel_rfl) hbp)
            subst e15
            have e19 : u19 = .string X := hI.fact 19 _ rfl (gen_after 19 (by kernel_rfl) hbp)
            subst e19
            have e21 : u21 = .string X := hI.fact 21 _ rfl (gen_after 21 (by kernel_rfl) hbp)
            subst e21
            have hch := hI.below
            have HI := Veil.mk hI
            clear hI
            simp only [puts, setAll, List.setIfInBounds_toArray, List.set_cons_zero, List.set_cons_succ]
            have hxx : (X.toList == X.toList) = true := by simp
            rw [if_pos (by rfl)]
            go_simp
            exact hK _ _ (rf_step HI.out hus hbs hks 22 _ _ (by show 22 < 35; decide) rfl rfl hbp rfl (Below.refl _ _) (by simp only [puts, setAll, List.set_cons_zero, List.set_cons_succ, List.setIfInBounds_toArray]))
          refine Steps.cons rfl (fun bb aa w' hbs hb0 hbp hI K hK => ?_) ?_
          · obtain ⟨us, hus, rfl, hI⟩ := hI
            obtain ⟨u0, u1, u2, u3, u4, u5, u6, u7, u8, u9, u10, u11, u12, u13, u14, u15, u16, u17, u18, u19, u20, u21, u22, u23, u24, u25, u26, u27, u28, u29, u30, u31, u32, u33, u34, rfl⟩ := len35 hus
            have e15 : u15 = .bool true := hI.fact 15 _ rfl (gen_after 15 (by kernel_rfl) hbp)
            subst e15
            have e22 : u22 = .bool true := hI.fact 22 _ rfl (gen_after 22 (by kernel_rfl) hbp)
            subst e22
            have hch := hI.below
            have HI := Veil.mk hI
            clear hI
            simp only [puts, setAll, List.setIfInBounds_toArray, List.set_cons_zero, List.set_cons_succ]
            go_simp
            exact hK _ _ (rf_step HI.out hus hbs hks 23 _ _ (by show 23 < 35; decide) rfl rfl hbp rfl (Below.refl _ _) (by simp only [puts, setAll, List.set_cons_zero, List.set_cons_succ, List.setIfInBounds_toArray]))
          refine Steps.cons rfl (fun bb aa w' hbs hb0 hbp hI K hK => ?_) ?_
          · obtain ⟨us, hus, rfl, hI⟩ := hI
            obtain ⟨u0, u1, u2, u3, u4, u5, u6, u7, u8, u9, u10, u11, u12, u13, u14, u15, u16, u17, u18, u19, u20, u21, u22, u23, u24, u25, u26, u27, u28, u29, u30, u31, u32, u33, u34, rfl⟩ := len35 hus
            have e23 : u23 = .bool true := hI.fact 23 _ rfl (gen_after 23 (by kernel_rfl) hbp)
            subst e23
            have hch := hI.below
            have HI := Veil.mk hI
            clear hI
            simp only [puts, setAll, List.setIfInBounds_toArray, List.set_cons_zero, List.set_cons_succ]
            go_simp
            exact hK _ _ (rf_step HI.out hus hbs hks 24 _ _ (by show 24 < 35; decide) rfl rfl hbp rfl (Below.refl _ _) (by simp only [puts, setAll, List.set_cons_zero, List.set_cons_succ, List.setIfInBounds_toArray]))
          refine Steps.consG (fun bb aa w' hbs hb0 hbp hI K hK => ?_) ?_
          · obtain ⟨us, hus, rfl, hI⟩ := hI
            obtain ⟨u0, u1, u2, u3, u4, u5, u6, u7, u8, u9, u10, u11, u12, u13, u14, u15, u16, u17, u18, u19, u20, u21, u22, u23, u24, u25, u26, u27, u28, u29, u30, u31, u32, u33, u34, rfl⟩ := len35 hus
            have e24 : u24 = .bool true := hI.fact 24 _ rfl (gen_after 24 (by kernel_rfl) hbp)
            subst e24
            have hch := hI.below
            have HI := Veil.mk hI
            clear hI
            simp only [puts, setAll, List.setIfInBounds_toArray, List.set_cons_zero, List.set_cons_succ]
            rw [if_pos (by rfl)]
            go_simp
            exact hK _ _ (rf_step HI.out hus hbs hks 25 _ _ (by show 25 < 35; decide) rfl rfl hbp rfl (Below.refl _ _) (by simp only [puts, setAll, List.set_cons_zero, List.set_cons_succ, List.setIfInBounds_toArray]))
          refine Steps.consG (fun bb aa w' hbs hb0 hbp hI K hK => ?_) ?_
          · obtain ⟨us, hus, rfl, hI⟩ := hI
            obtain ⟨u0, u1, u2, u3, u4, u5, u6, u7, u8, u9, u10, u11, u12, u13, u14, u15, u16, u17, u18, u19, u20, u21, u22, u23, u24, u25, u26, u27, u28, u29, u30, u31, u32, u33, u34, rfl⟩ := len35 hus
            have e24 : u24 = .bool true := hI.fact 24 _ rfl (gen_after 24 (by kernel_rfl) hbp)
            subst e24
            have e25 : u25 = .slice (some ⟨g, 0, none⟩) 2 cap := hI.fact 25 _ rfl (gen_after 25 (by kernel_rfl) hbp)
            subst e25
            have hch := hI.below
            have HI := Veil.mk hI
            clear hI
            simp only [puts, setAll, List.setIfInBounds_toArray, List.set_cons_zero, List.set_cons_succ]
            rw [if_pos (by rfl)]
            go_simp
            exact hK _ _ (rf_step HI.out hus hbs hks 26 _ _ (by show 26 < 35; decide) rfl rfl hbp rfl (Below.refl _ _) (by simp only [puts, setAll, List.set_cons_zero, List.set_cons_succ, List.setIfInBounds_toArray]))
          refine Steps.consG (fun bb aa w' hbs hb0 hbp hI K hK => ?_) ?_
          · obtain ⟨us, hus, rfl, hI⟩ := hI
            obtain ⟨u0, u1, u2, u3, u4, u5, u6, u7, u8, u9, u10, u11, u12, u13, u14, u15, u16, u17, u18, u19, u20, u21, u22, u23, u24, u25, u26, u27, u28, u29, u30, u31, u32, u33, u34, rfl⟩ := len35 hus
            have e24 : u24 = .bool true := hI.fact 24 _ rfl (gen_after 24 (by kernel_rfl) hbp)
            subst e24
            have e26 : u26 = .pointer (some ⟨g, 4, none⟩) := hI.fact 26 _ rfl (gen_after 26 (by kernel_rfl) hbp)
            subst e26
            have hch := hI.below
            have HI := Veil.mk hI
            clear hI
            simp only [puts, setAll, List.setIfInBounds_toArray, List.set_cons_zero, List.set_cons_succ]
            rw [if_pos (by rfl)]
            go_simp
            exact hK _ _ (rf_step HI.out hus hbs hks 27 _ _ (by show 27 < 35; decide) rfl rfl hbp rfl (Below.refl _ _) (by simp only [puts, setAll, List.set_cons_zero, List.set_cons_succ, List.setIfInBounds_toArray]))
          refine Steps.consG (fun bb aa w' hbs hb0 hbp hI K hK => ?_) ?_
          · obtain ⟨us, hus, rfl, hI⟩ := hI
            obtain ⟨u0, u1, u2, u3, u4, u5, u6, u7, u8, u9, u10, u11, u12, u13, u14, u15, u16, u17, u18, u19, u20, u21, u22, u23, u24, u25, u26, u27, u28, u29, u30, u31, u32, u33, u34, rfl⟩ := len35 hus
            have e24 : u24 = .bool true := hI.fact 24 _ rfl (gen_after 24 (by kernel_rfl) hbp)
            subst e24
            have e27 : u27 = .pointer (some ⟨g, 6, none⟩) := hI.fact 27 _ rfl (gen_after 27 (by kernel_rfl) hbp)
            subst e27
            have hch := hI.below
            have HI := Veil.mk hI
            clear hI
            simp only [puts, setAll, List.setIfInBounds_toArray, List.set_cons_zero, List.set_cons_succ]
            have k0 : w'.cell? ⟨g, 6, none⟩ = some (.int .i64 (p : Int)) := by rw [hch.cell (p := ⟨g, 6, none⟩) LG.out]; exact R6.out
            rw [if_pos (by rfl)]
            go_simp
            exact hK _ _ (rf_step HI.out hus hbs hks 28 _ _ (by show 28 < 35; decide) rfl rfl hbp rfl (Below.refl _ _) (by simp only [puts, setAll, List.set_cons_zero, List.set_cons_succ, List.setIfInBounds_toArray]))
          refine Steps.consG (fun bb aa w' hbs hb0 hbp hI K hK => ?_) ?_
          · obtain ⟨us, hus, rfl, hI⟩ := hI
            obtain ⟨u0, u1, u2, u3, u4, u5, u6, u7, u8, u9, u10, u11, u12, u13, u14, u15, u16, u17, u18, u19, u20, u21, u22, u23, u24, u25, u26, u27, u28, u29, u30, u31, u32, u33, u34, rfl⟩ := len35 hus
            have e24 : u24 = .bool true := hI.fact 24 _ rfl (gen_after 24 (by kernel_rfl) hbp)
            subst e24
            have hch := hI.below
            have HI := Veil.mk hI
            clear hI
            simp only [puts, setAll, List.setIfInBounds_toArray, List.set_cons_zero, List.set_cons_succ]
            rw [if_pos (by rfl)]
            go_simp
            exact hK _ _ (rf_step HI.out hus hbs hks 29 _ _ (by show 29 < 35; decide) rfl rfl hbp rfl (Below.refl _ _) (by simp only [puts, setAll, List.set_cons_zero, List.set_cons_succ, List.setIfInBounds_toArray]))
          refine Steps.consG (fun bb aa w' hbs hb0 hbp hI K hK => ?_) ?_
          · obtain ⟨us, hus, rfl, hI⟩ := hI
            obtain ⟨u0, u1, u2, u3, u4, u5, u6, u7, u8, u9, u10, u11, u12, u13, u14, u15, u16, u17, u18, u19, u20, u21, u22, u23, u24, u25, u26, u27, u28, u29, u30, u31, u32, u33, u34, rfl⟩ := len35 hus
            have e24 : u24 = .bool true := hI.fact 24 _ rfl (gen_after 24 (by kernel_rfl) hbp)
            subst e24
            have e29 : u29 = .string (sB 39 true l) := hI.fact 29 _ rfl (gen_after 29 (by kernel_rfl) hbp)
            subst e29
            have hch := hI.below
            have HI := Veil.mk hI
            clear hI
            simp only [puts, setAll, List.setIfInBounds_toArray, List.set_cons_zero, List.set_cons_succ]
            rw [if_pos (by rfl)]
            go_simp
            exact hK _ _ (rf_step HI.out hus hbs hks 30 _ _ (by show 30 < 35; decide) rfl rfl hbp rfl (Below.refl _ _) (by simp only [puts, setAll, List.set_cons_zero, List.set_cons_succ, List.setIfInBounds_toArray]))
          refine Steps.consG (fun bb aa w' hbs hb0 hbp hI K hK => ?_) ?_
          · obtain ⟨us, hus, rfl, hI⟩ := hI
            obtain ⟨u0, u1, u2, u3, u4, u5, u6, u7, u8, u9, u10, u11, u12, u13, u14, u15, u16, u17, u18, u19, u20, u21, u22, u23, u24, u25, u26, u27, u28, u29, u30, u31, u32, u33, u34, rfl⟩ := len35 hus
            have e24 : u24 = .bool true := hI.fact 24 _ rfl (gen_after 24 (by kernel_rfl) hbp)
            subst e24
            have e30 : u30 = .int .i64 ((sB 39 true l).size : Int) := hI.fact 30 _ rfl (gen_after 30 (by kernel_rfl) hbp)
            subst e30
            have hch := hI.below
            have HI := Veil.mk hI
            clear hI
            simp only [puts, setAll, List.setIfInBounds_toArray, List.set_cons_zero, List.set_cons_succ]
            rw [if_pos (by rfl)]
            go_simp
            exact hK _ _ (rf_step HI.out hus hbs hks 31 _ _ (by show 31 < 35; decide) rfl rfl hbp rfl (Below.refl _ _) (by simp only [puts, setAll, List.set_cons_zero, List.set_cons_succ, List.setIfInBounds_toArray]))
          refine Steps.consG (fun bb aa w' hbs hb0 hbp hI K hK => ?_) ?_
          · obtain ⟨us, hus, rfl, hI⟩ := hI
            obtain ⟨u0, u1, u2, u3, u4, u5, u6, u7, u8, u9, u10, u11, u12, u13, u14, u15, u16, u17, u18, u19, u20, u21, u22, u23, u24, u25, u26, u27, u28, u29, u30, u31, u32, u33, u34, rfl⟩ := len35 hus
            have e24 : u24 = .bool true := hI.fact 24 _ rfl (gen_after 24 (by kernel_rfl) hbp)
            subst e24
            have e28 : u28 = .int .i64 (p : Int) := hI.fact 28 _ rfl (gen_after 28 (by kernel_rfl) hbp)
            subst e28
            have e31 : u31 = .int .i64 (IntKind.i64.wrap (((sB 39 true l).size : Int) + 1)) := hI.fact 31 _ rfl (gen_after 31 (by kernel_rfl) hbp)
            subst e31
            have hch := hI.below
            have HI := Veil.mk hI
            clear hI
            simp only [puts, setAll, List.setIfInBounds_toArray, List.set_cons_zero, List.set_cons_succ]
            have hpe := HPE.out
            rw [if_pos (by rfl)]
            go_simp
            exact hK _ _ (rf_step HI.out hus hbs hks 32 _ _ (by show 32 < 35; decide) rfl rfl hbp rfl (Below.refl _ _) (by simp only [puts, setAll, List.set_cons_zero, List.set_cons_succ, List.setIfInBounds_toArray]))
          refine Steps.cons rfl (fun bb aa w' hbs hb0 hbp hI K hK => ?_) ?_
          · obtain ⟨us, hus, rfl, hI⟩ := hI
            obtain ⟨u0, u1, u2, u3, u4, u5, u6, u7, u8, u9, u10, u11, u12, u13, u14, u15, u16, u17, u18, u19, u20, u21, u22, u23, u24, u25, u26, u27, u28, u29, u30, u31, u32, u33, u34, rfl⟩ := len35 hus
            have e24 : u24 = .bool true := hI.fact 24 _ rfl (gen_after 24 (by kernel_rfl) hbp)
            subst e24
            have e32 : u32 = .bool true := hI.fact 32 _ rfl (gen_after 32 (by kernel_rfl) hbp)
            subst e32
            have hch := hI.below
            have HI := Veil.mk hI
            clear hI
            simp only [puts, setAll, List.setIfInBounds_toArray, List.set_cons_zero, List.set_cons_succ]
            go_simp
            exact hK _ _ (rf_step HI.out hus hbs hks 33 _ _ (by show 33 < 35; decide) rfl rfl hbp rfl (Below.refl _ _) (by simp only [puts, setAll, List.set_cons_zero, List.set_cons_succ, List.setIfInBounds_toArray]))
          refine Steps.cons rfl (fun bb aa w' hbs hb0 hbp hI K hK => ?_) ?_
          · obtain ⟨us, hus, rfl, hI⟩ := hI
            obtain ⟨u0, u1, u2, u3, u4, u5, u6, u7, u8, u9, u10, u11, u12, u13, u14, u15, u16, u17, u18, u19, u20, u21, u22, u23, u24, u25, u26, u27, u28, u29, u30, u31, u32, u33, u34, rfl⟩ := len35 hus
            have e33 : u33 = .bool true := hI.fact 33 _ rfl (gen_after 33 (by kernel_rfl) hbp)
            subst e33
            have hch := hI.below
            have HI := Veil.mk hI
            clear hI
            simp only [puts, setAll, List.setIfInBounds_toArray, List.set_cons_zero, List.set_cons_succ]
            go_simp
            exact hK _ _ (rf_step HI.out hus hbs hks 34 _ _ (by show 34 < 35; decide) rfl rfl hbp rfl (Below.refl _ _) (by simp only [puts, setAll, List.set_cons_zero, List.set_cons_succ, List.setIfInBounds_toArray]))
          exact Steps.nil
        · intro us w' hus hd
          obtain ⟨u0, u1, u2, u3, u4, u5, u6, u7, u8, u9, u10, u11, u12, u13, u14, u15, u16, u17, u18, u19, u20, u21, u22, u23, u24, u25, u26, u27, u28, u29, u30, u31, u32, u33, u34, rfl⟩ := len35 hus
          obtain ⟨hbW, hd⟩ := hd
          have e0 : u0 = .pointer (some ⟨w2.heap.size, 0, none⟩) := hd 0 _ rfl
          subst e0
          have e1 : u1 = .int .i64 0 := hd 1 _ rfl
          subst e1
          have e2 : u2 = .bool true := hd 2 _ rfl
          subst e2
          have e3 : u3 = .bool true := hd 3 _ rfl
          subst e3
          have e4 : u4 = .slice (some ⟨g, 0, none⟩) 2 cap := hd 4 _ rfl
          subst e4
          have e5 : u5 = .int .i64 2 := hd 5 _ rfl
          subst e5
          have e6 : u6 = .bool true := hd 6 _ rfl
          subst e6
          have e7 : u7 = .bool true := hd 7 _ rfl
          subst e7
          have e8 : u8 = .bool true := hd 8 _ rfl
          subst e8
          have e9 : u9 = .slice (some ⟨g, 0, none⟩) 2 cap := hd 9 _ rfl
          subst e9
          have e10 : u10 = .pointer (some ⟨g, 0, none⟩) := hd 10 _ rfl
          subst e10
          have e11 : u11 = .pointer (some ⟨g, 0, none⟩) := hd 11 _ rfl
          subst e11
          have e12 : u12 = .int .i64 4 := hd 12 _ rfl
          subst e12
          have e13 : u13 = .bool true := hd 13 _ rfl
          subst e13
          have e14 : u14 = .bool true := hd 14 _ rfl
          subst e14
          have e15 : u15 = .bool true := hd 15 _ rfl
          subst e15
          have e16 : u16 = .slice (some ⟨g, 0, none⟩) 2 cap := hd 16 _ rfl
          subst e16
          have e17 : u17 = .pointer (some ⟨g, 0, none⟩) := hd 17 _ rfl
          subst e17
          have e18 : u18 = .pointer (some ⟨g, 1, none⟩) := hd 18 _ rfl
          subst e18
          have e19 : u19 = .string X := hd 19 _ rfl
          subst e19
          have e20 : u20 = .slice a2 k cap2 := hd 20 _ rfl
          subst e20
          have e21 : u21 = .string X := hd 21 _ rfl
          subst e21
          have e22 : u22 = .bool true := hd 22 _ rfl
          subst e22
          have e23 : u23 = .bool true := hd 23 _ rfl
          subst e23
          have e24 : u24 = .bool true := hd 24 _ rfl
          subst e24
          have e25 : u25 = .slice (some ⟨g, 0, none⟩) 2 cap := hd 25 _ rfl
          subst e25
          have e26 : u26 = .pointer (some ⟨g, 4, none⟩) := hd 26 _ rfl
          subst e26
          have e27 : u27 = .pointer (some ⟨g, 6, none⟩) := hd 27 _ rfl
          subst e27
          have e28 : u28 = .int .i64 (p : Int) := hd 28 _ rfl
          subst e28
          have e29 : u29 = .string (sB 39 true l) := hd 29 _ rfl
          subst e29
          have e30 : u30 = .int .i64 ((sB 39 true l).size : Int) := hd 30 _ rfl
          subst e30
          have e31 : u31 = .int .i64 (IntKind.i64.wrap (((sB 39 true l).size : Int) + 1)) := hd 31 _ rfl
          subst e31
          have e32 : u32 = .bool true := hd 32 _ rfl
          subst e32
          have e33 : u33 = .bool true := hd 33 _ rfl
          subst e33
          have e34 : u34 = .bool true := hd 34 _ rfl
          subst e34
          clear hd
          simp only [puts, setAll, List.setIfInBounds_toArray, List.set_cons_zero, List.set_cons_succ]
          have HBW := Veil.mk hbW
          clear hbW
          go_wp2
          go_ret
          exact ⟨rfl, HB1.out.trans ((HBE.out.trans ((HB3.out.trans (HBW.out.mono HB3.out.size)).mono HBE.out.size)).mono HB1.out.size)⟩
theorem strings_law (a : Option Addr) (n cap : Nat) (l : List Nat) (hlt : ∀ u ∈ l, u < 65536) (single : Bool) (w : World) (hG : Gl w) (hN : W.Nums .u16 w a n l) :
    Calls Tryd.prog 4 #[.slice a n cap, .bool single] w (BelPost w (.bool true)) := by
  cases single with
  | false => exact strings_law_false a n cap l hlt w hG hN
  | true => exact strings_law_true a n cap l hlt w hG hN
end Go.Proofs.YtfejompnjaifmaaDoor
