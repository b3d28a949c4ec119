/- ArenaCircles: the walk. -/
import Derived.Test.YtkkbfadfgdjkdaaCb
import Derived.Test.YtkkbfadfgdjkdaaIh
import Derived.Test.YtkkbfadfgdjkdaaIr
namespace Go.Proofs.Ytkkbfadfgdjkdaa
open Go Go.RowKit

/-- A slice value reads as these pairs. -/
def Prs (w : World) (a : Option Addr) (n : Nat) (l : List (Int × Int)) : Prop := l.length = n ∧ (0 < n → ∃ b o, a = some ⟨b, o, none⟩ ∧ b < w.heap.size ∧ ∀ i, i < n → w.cell? ⟨b, o + i * 2, none⟩ = some (.int .i64 (l[i]?.getD (0, 0)).1) ∧ w.cell? ⟨b, o + i * 2 + 1, none⟩ = some (.int .i64 (l[i]?.getD (0, 0)).2))
theorem Prs.on {w w1 : World} {a : Option Addr} {n : Nat} {l : List (Int × Int)} (h : Prs w a n l) (hb : Below w.heap.size w w1) : Prs w1 a n l :=
  ⟨h.1, fun hn => by
    obtain ⟨b, o, e, hlt, hc⟩ := h.2 hn
    exact ⟨b, o, e, by have := hb.size; omega, fun i hi => by rw [hb.cell (p := ⟨b, o + i * 2, none⟩) hlt, hb.cell (p := ⟨b, o + i * 2 + 1, none⟩) hlt]; exact hc i hi⟩⟩
theorem len21 {α : Type} {us : List α} (h : us.length = 21) : ∃ a0 a1 a2 a3 a4 a5 a6 a7 a8 a9 a10 a11 a12 a13 a14 a15 a16 a17 a18 a19 a20, us = [a0, a1, a2, a3, a4, a5, a6, a7, a8, a9, a10, a11, a12, a13, a14, a15, a16, a17, a18, a19, a20] := by
  match us, h with
  | [a0, a1, a2, a3, a4, a5, a6, a7, a8, a9, a10, a11, a12, a13, a14, a15, a16, a17, a18, a19, a20], _ => exact ⟨a0, a1, a2, a3, a4, a5, a6, a7, a8, a9, a10, a11, a12, a13, a14, a15, a16, a17, a18, a19, a20, rfl⟩

theorem Try.infoPN : (Try.prog.info? 27).map (fun i => (i.zero, i.size, i.bytes)) = some (some (.pointer none), 1, 8) := by kernel_rfl
theorem make_P (n : Nat) (hn : n ≤ 1000000) (W : World) : (Instr.makeSlice 59 (.int .i64 (n : Int)) (.int .i64 (n : Int))).run Try.prog W = .ok (.slice (some ⟨W.heap.size, 0, none⟩) n n) (W.alloc (.cells (madeCells #[Value.pointer none] n) 27)) := by
  obtain ⟨iI, hiI, hzI0, hzI1, hzI2⟩ := info_parts Try.infoPN
  have := run_make (P := Try.prog) W 59 27 iI _ Try.underlying59 hiI hzI0 .i64 .i64 (n : Int) (n : Int) (by omega) (by omega) (by rw [hzI2]; omega) (by omega)
  rw [hzI1, show (Value.pointer none).cells = #[Value.pointer none] from rfl] at this
  simpa using this
theorem atN_nat (j k : Nat) : atN ((j : Int) + 1) k = (j + 1) % k := by
  unfold atN
  rw [show ((j : Int) + 1) = ((j + 1 : Nat) : Int) by omega, ← Int.natCast_emod, Int.toNat_natCast]
theorem mem_more {tos : Nat → List Int} {nb : Nat} {T : List Int} (hT : tos nb = T) {y z : Int} {nb' : Nat} (h : z ∈ tos nb') : z ∈ (if nb' = nb then T ++ [y] else tos nb') := by
  split
  · rename_i e
    rw [e, hT] at h
    exact List.mem_append_left _ h
  · exact h
theorem len_more {tos : Nat → List Int} {nb i : Nat} {T : List Int} (hT : tos nb = T) {y : Int} (h : ∀ b, (tos b).length ≤ i) (b : Nat) : (if b = nb then T ++ [y] else tos b).length ≤ i + 1 := by
  have := h b
  split
  · rename_i e
    rw [e, hT] at this
    rw [List.length_append]
    exact Nat.add_le_add_right this 1
  · omega
theorem link_mem {tos : Nat → List Int} {nbs : List Nat} {nb i k v : Nat} {T : List Int} (hT : tos nb = T) (hv : atN ((i : Int) + 1) k = v) (hnb : nbs[i]? = some nb) (hto : ∀ j nb, j < i → nbs[j]? = some nb → (((j + 1) % k + 1 : Nat) : Int) ∈ tos nb) :
    ∀ j nb', j < i + 1 → nbs[j]? = some nb' → (((j + 1) % k + 1 : Nat) : Int) ∈ (if nb' = nb then T ++ [(v : Int) + 1] else tos nb') := by
  intro j nb' hj hj2
  by_cases e : j = i
  · subst e
    rw [hnb] at hj2
    injection hj2 with hj2
    subst hj2
    rw [if_pos rfl, ← hv, atN_nat]
    exact List.mem_append_right _ (by simp)
  · exact mem_more hT (hto j nb' (by omega) hj2)
abbrev noRow : Nat → Value := fun _ => .slice none 0 0
abbrev atV (x : Nat) : Value := .func (.func 25) #[] #[.pointer (some ⟨x, 0, none⟩)]
set_option maxHeartbeats 8000000 in
set_option maxRecDepth 100000 in
theorem circles_law (n0 : Int) (a : Option Addr) (m cap : Nat) (l : List (Int × Int)) (root : Int) (w : World) (hN : Prs w a m l) :
    Calls Try.prog 7 #[.int .i64 n0, .slice a m cap, .int .i64 root] w (BelT w) := by
  obtain ⟨p0, hp0, hx1, hx2, hx3, hx4⟩ := rem_nat n0 12 (by omega)
  have hx1 : (n0.tmod 12 + 12).tmod 12 = (p0 : Int) := hx1
  have hx2 : (n0.tmod 12 + 12) % 12 = (p0 : Int) := hx2
  have hx3 : 0 < n0.tmod 12 + 12 := hx3
  have hx4 : n0.tmod 12 < 12 := hx4
  have hp0' : (p0 : Int) < 12 := by omega
  have HN := Veil.mk hN
  have HFT : Veil (∀ w, Calls Try.prog 8 #[] w fun e w' => e = .returned (.bool true) ∧ Below w.heap.size w w') := ⟨fit_any⟩
  have bx := Box.new w 3 #[.int .i64 n0]
  have hb0 : Below w.heap.size w (w.alloc (.cells #[.int .i64 n0] 3)) := (Below.refl _ _).alloc (Nat.le_refl _) _
  have HX0 := Veil.mk (And.intro bx hb0)
  clear hN bx hb0
  go_enter Try.func7, Try.ntmps7
  go_upto_region 3 with (first | (go_at_call 8; ((with_reducible refine (HFT.out _).mono ?_); rintro e9 w2 ⟨rfl, hb2⟩)))
  have bx2 := HX0.out.1.on hb2 HX0.out.1.lt
  have hB2 : Below w.heap.size w w2 := HX0.out.2.trans (hb2.mono HX0.out.2.size)
  obtain ⟨x, hx0⟩ : ∃ x, w.heap.size = x := ⟨_, rfl⟩
  rw [hx0] at bx2 hB2 ⊢
  have cx : w2.cell? ⟨x, 0, none⟩ = some (.int .i64 n0) := bx2.at_ 0
  have cxf := bx2.free 0
  have HX2 := Veil.mk (And.intro hx0 (And.intro bx2 hB2))
  clear hb2 bx2 hB2 HX0
  go_upto_region 4 with (fail)
  obtain ⟨-, bx2, hB2⟩ := HX2.out
  have bx3 := bx2.put 0 (.int .i64 ((p0 : Int) + 1))
  have hB3 : Below x w (w2.setCell ⟨x, 0, none⟩ (.int .i64 ((p0 : Int) + 1))) := hB2.setCell (p := ⟨x, 0, none⟩) (Nat.le_refl _) _
  clear cx cxf bx2 hB2 HX2 hx1 hx2 hx3 hx4
  obtain ⟨n, hn⟩ : ∃ n, p0 + 1 = n := ⟨_, rfl⟩
  have hn1 : (p0 : Int) + 1 = (n : Int) := by omega
  rw [hn1] at bx3 hB3 ⊢
  generalize w2.setCell ⟨x, 0, none⟩ (.int .i64 (n : Int)) = w3 at bx3 hB3 ⊢
  have hn12 : n ≤ 12 := by omega
  have hn0 : 0 < n := by omega
  clear hp0 hp0' hn1 hn
  have HX3 := Veil.mk (And.intro hB3 bx3)
  clear hB3 bx3
  by_cases hbig : 100 < m
  · have hbig' : (100 : Int) < (m : Int) := by omega
    go_wp2
    go_ret
    exact ⟨rfl, by rw [hx0]; exact HX3.out.1⟩
  have hbig' : ¬ (100 : Int) < (m : Int) := by omega
  go_upto_region 6 with (fail)
  have cx3 : w3.cell? ⟨x, 0, none⟩ = some (.int .i64 (n : Int)) := HX3.out.2.at_ 0
  obtain ⟨A, hA⟩ : ∃ A, w3.heap.size = A := ⟨_, rfl⟩
  have hxA : x < A := by rw [← hA]; exact HX3.out.2.lt
  have HNW : Veil (Calls Try.prog 9 #[] w3 fun e w' => e = .returned (.pointer (some ⟨A, 0, none⟩)) ∧ Below A w3 w' ∧ A < w'.heap.size ∧ ArAt w' A A (.slice none 0 0) (.slice none 0 0) (.slice none 0 0) emptyD ∧ w'.cell? ⟨x, 0, none⟩ = some (.int .i64 (n : Int))) := ⟨by
    rw [← hA]
    exact (new_any w3).mono fun e w' h => ⟨h.1, h.2.1, h.2.2.1, h.2.2.2, by rw [h.2.1.cell (p := ⟨x, 0, none⟩) (by rw [hA]; exact hxA)]; exact cx3⟩⟩
  have hmk : ∀ W, (Instr.makeSlice 59 (.int .i64 (n : Int)) (.int .i64 (n : Int))).run Try.prog W = .ok (.slice (some ⟨W.heap.size, 0, none⟩) n n) (W.alloc (.cells (madeCells #[Value.pointer none] n) 27)) := fun W => make_P _ (by omega) W
  go_upto_region 8 with (first | (go_at_call 9; ((with_reducible refine HNW.out.mono ?_); rintro e w4 ⟨rfl, hb4, hs4, ha4, cx4⟩)))
  have bl5 := Box.new w4 27 (madeCells #[Value.pointer none] n)
  have bb5 : Below w4.heap.size w4 (w4.alloc (.cells (madeCells #[Value.pointer none] n) 27)) := (Below.refl _ _).alloc (Nat.le_refl _) _
  have hcir : Cir A A w4.heap.size n [] noRow noTo (.slice none 0 0) (.slice none 0 0) (.slice none 0 0) (w4.alloc (.cells (madeCells #[Value.pointer none] n) 27)) :=
    ⟨ha4.on bb5, (fun nb h => nomatch h), (fun nb nb' b h => nomatch h), ⟨_, bl5, by rw [size_madeCells], fun i nb h => by simp at h⟩, by omega⟩
  have hB5 : Below A w3 (w4.alloc (.cells (madeCells #[Value.pointer none] n) 27)) := hb4.trans (bb5.mono (by omega))
  obtain ⟨lb, hlb⟩ : ∃ lb, w4.heap.size = lb := ⟨_, rfl⟩
  rw [hlb] at hcir ⊢
  generalize w4.alloc (.cells (madeCells #[Value.pointer none] n) 27) = w5 at hcir hB5 ⊢
  clear bl5 bb5 hb4 hs4 ha4 cx4 hmk HNW cx3 hlb
  have HC5 := Veil.mk (And.intro hcir hB5)
  clear hcir hB5
  go_upto_region 9 with (fail)
  go_loopw [30] (fun i wr => ∃ (k : Nat) (nbs : List Nat) (cv fv rv : Value), k ≤ n ∧ i = .int .i64 (k : Int) ∧ nbs.length = k ∧ Cir A A lb n nbs noRow noTo cv fv rv wr ∧ Below A w3 wr) (fun i _ => n - (intOf i).toNat)
  case atStart => exact ⟨0, [], _, _, _, Nat.zero_le _, rfl, rfl, HC5.out.1, HC5.out.2⟩
  case round =>
    obtain ⟨k, nbs, cv, fv, rv, hk, rfl, hnl, hs, hb⟩ := hrel
    have hk0 : (0 : Int) ≤ (k : Int) := by omega
    by_cases hlt : k < n
    · have hlt' : (k : Int) < (n : Int) := by omega
      have hkb : (k : Int) < 1000 := by omega
      have HM := Veil.mk (hs.add (by omega) hn12 rfl rfl)
      rw [hnl] at HM
      have s1 := hs.on ((Below.refl wr.heap.size wr).alloc (Nat.le_refl _) (.cells #[.slice none 0 0, .slice none 0 0, .slice none 0 0, .int .i64 0] 30))
      obtain ⟨cs, c1, c2, -⟩ := s1.lbx
      obtain ⟨ov, hov⟩ : ∃ ov, cs[k]? = some ov := ⟨_, Array.getElem?_eq_getElem (by omega)⟩
      have c3 : (wr.alloc (.cells #[.slice none 0 0, .slice none 0 0, .slice none 0 0, .int .i64 0] 30)).cell? ⟨lb, k, none⟩ = some ov := by rw [c1.at_ k, hov]
      have c3f := c1.free k
      have c4 : ((wr.alloc (.cells #[.slice none 0 0, .slice none 0 0, .slice none 0 0, .int .i64 0] 30)).setCell ⟨lb, k, none⟩ (ptrV wr.heap.size)).cell? ⟨lb, k, none⟩ = some (ptrV wr.heap.size) := World.cell?_setCell_same _ _ _ c3
      have HS := Veil.mk hb
      clear hs hb s1 c1 c2 hov HC5
      go_wp2_with (first | (go_at_call 10; ((with_reducible refine HM.out.mono ?_); rintro e w7 ⟨⟨v7, rfl⟩, hb7, cv7, fv7, rv7, hs7⟩)))
      go_round
      case rel => exact ⟨k + 1, nbs ++ [wr.heap.size], cv7, fv7, rv7, by omega, by go_num, by rw [List.length_append, hnl]; rfl, hs7, HS.out.trans hb7⟩
      case measure => simp [intOf]; omega
    · obtain rfl : k = n := by omega
      have hlt' : ¬ (k : Int) < (k : Int) := by omega
      have HC6 := Veil.mk (And.intro hs hb)
      clear hs hb HC5
      have cx := Veil.mk (show True from trivial)
      go_upto_region 16 with (fail)
      go_loopw [49] (fun iv wr => ∃ (i : Nat) (rows : Nat → Value) (tos : Nat → List Int), i ≤ k ∧ iv = .int .i64 (i : Int) ∧ Cir A A lb k nbs rows tos cv fv rv wr ∧ Below A w3 wr ∧ (∀ j nb, j < i → nbs[j]? = some nb → (((j + 1) % k + 1 : Nat) : Int) ∈ tos nb) ∧ ∀ nb, (tos nb).length ≤ i) (fun i _ => k - (intOf i).toNat)
      case atStart => exact ⟨0, noRow, noTo, Nat.zero_le _, rfl, HC6.out.1, HC6.out.2, fun j nb h => by omega, fun nb => Nat.le_refl _⟩
      case round =>
        obtain ⟨i, rows, tos, hi9, rfl, hs, hb, hto, htl⟩ := hrel
        have hi0 : (0 : Int) ≤ (i : Int) := by omega
        by_cases hit : i < k
        · have hit' : (i : Int) < (k : Int) := by omega
          have hi12 : (i : Int) < 12 := by omega
          obtain ⟨nb, hnb⟩ : ∃ nb, nbs[i]? = some nb := ⟨_, List.getElem?_eq_getElem (by omega)⟩
          have hm := List.mem_of_getElem? hnb
          obtain ⟨z1, z2, z3, z4⟩ := hs.nod nb hm
          have hAwr : A ≤ wr.heap.size := by have := hs.ar.box.lt; omega
          obtain ⟨cs, c1, c2, c3⟩ := hs.lbx
          have HLB := Veil.mk (And.intro c1 (c3 i nb hnb))
          have HTL := Veil.mk (htl nb)
          obtain ⟨V, hV⟩ : ∃ V, rows nb = V := ⟨_, rfl⟩
          obtain ⟨T, hT⟩ : ∃ T, tos nb = T := ⟨_, rfl⟩
          rw [hV] at z2 z3
          rw [hT] at z3 HTL
          have htl9 : T.length ≤ 12 := by have := HTL.out; omega
          have HNB := Veil.mk z2
          have HRW := Veil.mk z3
          have bxr := (HX3.out.2).on (B := A) hb hxA
          have HXB := Veil.mk bxr
          obtain ⟨v, hv⟩ : ∃ v, atN ((i : Int) + 1) k = v := ⟨_, rfl⟩
          have hv12 : v < 12 := by have := atN_lt ((i : Int) + 1) hn0; omega
          have hv12' : (v : Int) < 12 := by omega
          have hv0 : (0 : Int) ≤ (v : Int) := by omega
          have qa : IntKind.i64.wrap ((i : Int) + 1) = (i : Int) + 1 := by rw [IntKind.wrap_i64]; omega
          have qb : IntKind.i64.wrap ((v : Int) + 1) = (v : Int) + 1 := by rw [IntKind.wrap_i64]; omega
          have HAT : Veil (∀ w', w'.cell? ⟨x, 0, none⟩ = some (.int .i64 (k : Int)) → Calls Try.prog 25 #[.int .i64 ((i : Int) + 1), .pointer (some ⟨x, 0, none⟩)] w' fun e w9 => e = .returned (.int .i64 (v : Int)) ∧ Below w'.heap.size w' w9) := ⟨fun w' h => by rw [← hv]; exact at_any x k _ hn0 hn12 w' h⟩
          obtain ⟨i0, hi, hz0, hz1, hz2⟩ := info_parts Try.infoI
          have HST := Veil.mk (And.intro hs (And.intro hb (And.intro hto (And.intro htl (And.intro hm (And.intro hV (And.intro hT (And.intro hv hnb))))))))
          clear hs hb hto htl hm hV hT hv z1 z2 z3 z4 c1 c2 c3 bxr hnb HC6
          go_upto_region 18 with (fail)
          refine wp_region_chain ([some (· = .slice (some ⟨lb, 0, none⟩) k k), some (· = .int .i64 (i : Int)), some (· = .pointer (some ⟨lb, i, none⟩)), some (· = .pointer (some ⟨nb, 0, none⟩)), some (· = .slice (some ⟨lb, 0, none⟩) k k), some (· = .int .i64 (i : Int)), some (· = .pointer (some ⟨lb, i, none⟩)), some (· = .pointer (some ⟨nb, 0, none⟩)), some (· = .pointer (some ⟨nb, 0, none⟩)), some (· = .pointer (some ⟨nb, 0, none⟩)), some (· = V), some (· = atV x), some (· = .int .i64 (i : Int)), some (· = .int .i64 ((i : Int) + 1)), some (· = .int .i64 (v : Int)), some (· = .int .i64 ((v : Int) + 1)), none, none, some (· = .pointer (some ⟨nb, 0, none⟩)), some (· = .pointer (some ⟨nb, 0, none⟩)), none] : List (Option (Value → Prop))) (AppPh wr A 3 1 T.length (intsV T) [.int .i64 ((v : Int) + 1)] V nb 0 16 17 20) [some 52, some 53, some 54, some 55, some 56, some 57, some 58, some 59, some 60, some 61, some 62, some 63, some 64, some 65, some 66, some 67, some 68, some 69, some 70, some 71, none] (curV' _ [some 52, some 53, some 54, some 55, some 56, some 57, some 58, some 59, some 60, some 61, some 62, some 63, some 64, some 65, some 66, some 67, some 68, some 69, some 70, some 71, none]) (by kernel_rfl) rfl rfl (puts_cur _ _) (Below.refl _ _).drew ?_ (by kernel_rfl) ?_
          · refine Steps.cons rfl (fun bb aa w' hbs hb0 hbp hI K hK => ?_) ?_
            · obtain ⟨us, hus, ha, hI⟩ := hI
              obtain ⟨u0, u1, u2, u3, u4, u5, u6, u7, u8, u9, u10, u11, u12, u13, u14, u15, u16, u17, u18, u19, u20, rfl⟩ := len21 hus
              have HI := Veil.mk hI
              clear hI
              rw [ha]
              simp only [puts, setAll, List.setIfInBounds_toArray, List.set_cons_zero, List.set_cons_succ]
              go_simp
              exact hK _ _ (chain_step HI.out hus hbs 0 _ (by show 0 < 21; decide) rfl hbp (val_of rfl rfl) (HI.out.ph.step 0 _ (by decide) (by decide) (by decide)) (by simp only [puts, setAll, List.set_cons_zero, List.set_cons_succ, List.setIfInBounds_toArray]))
            refine Steps.cons rfl (fun bb aa w' hbs hb0 hbp hI K hK => ?_) ?_
            · obtain ⟨us, hus, ha, hI⟩ := hI
              obtain ⟨u0, u1, u2, u3, u4, u5, u6, u7, u8, u9, u10, u11, u12, u13, u14, u15, u16, u17, u18, u19, u20, rfl⟩ := len21 hus
              have HI := Veil.mk hI
              clear hI
              rw [ha]
              simp only [puts, setAll, List.setIfInBounds_toArray, List.set_cons_zero, List.set_cons_succ]
              go_simp
              exact hK _ _ (chain_step HI.out hus hbs 1 _ (by show 1 < 21; decide) rfl hbp (val_of rfl rfl) (HI.out.ph.step 1 _ (by decide) (by decide) (by decide)) (by simp only [puts, setAll, List.set_cons_zero, List.set_cons_succ, List.setIfInBounds_toArray]))
            refine Steps.cons rfl (fun bb aa w' hbs hb0 hbp hI K hK => ?_) ?_
            · obtain ⟨us, hus, ha, hI⟩ := hI
              obtain ⟨u0, u1, u2, u3, u4, u5, u6, u7, u8, u9, u10, u11, u12, u13, u14, u15, u16, u17, u18, u19, u20, rfl⟩ := len21 hus
              have e0 : u0 = .slice (some ⟨lb, 0, none⟩) k k := hI.val 0 _ rfl (gen_after 0 (by kernel_rfl) hbp)
              subst e0
              have e1 : u1 = .int .i64 (i : Int) := hI.val 1 _ rfl (gen_after 1 (by kernel_rfl) hbp)
              subst e1
              have HI := Veil.mk hI
              clear hI
              rw [ha]
              simp only [puts, setAll, List.setIfInBounds_toArray, List.set_cons_zero, List.set_cons_succ]
              go_simp
              exact hK _ _ (chain_step HI.out hus hbs 2 _ (by show 2 < 21; decide) rfl hbp (val_of rfl rfl) (HI.out.ph.step 2 _ (by decide) (by decide) (by decide)) (by simp only [puts, setAll, List.set_cons_zero, List.set_cons_succ, List.setIfInBounds_toArray]))
            refine Steps.cons rfl (fun bb aa w' hbs hb0 hbp hI K hK => ?_) ?_
            · obtain ⟨us, hus, ha, hI⟩ := hI
              obtain ⟨u0, u1, u2, u3, u4, u5, u6, u7, u8, u9, u10, u11, u12, u13, u14, u15, u16, u17, u18, u19, u20, rfl⟩ := len21 hus
              have e2 : u2 = .pointer (some ⟨lb, i, none⟩) := hI.val 2 _ rfl (gen_after 2 (by kernel_rfl) hbp)
              subst e2
              have h18 := hI.before 18 3 rfl (by kernel_rfl) hb0
              have h19 := hI.before 19 18 rfl (by kernel_rfl) h18
              have h20 := hI.before 20 19 rfl (by kernel_rfl) h19
              have hch := hI.ph.touch h20
              have c0 : w'.cell? ⟨lb, i, none⟩ = some (ptrV nb) := by rw [(HLB.out.1.touch hch (fun e => (own_lab HRW.out lb e).ne HLB.out.1.lab (by decide) rfl)).at_ i]; exact HLB.out.2
              have HI := Veil.mk hI
              clear hI
              clear h20
              clear h19
              clear h18
              rw [ha]
              simp only [puts, setAll, List.setIfInBounds_toArray, List.set_cons_zero, List.set_cons_succ]
              go_simp
              exact hK _ _ (chain_step HI.out hus hbs 3 _ (by show 3 < 21; decide) rfl hbp (val_of rfl rfl) (HI.out.ph.step 3 _ (by decide) (by decide) (by decide)) (by simp only [puts, setAll, List.set_cons_zero, List.set_cons_succ, List.setIfInBounds_toArray]))
            refine Steps.cons rfl (fun bb aa w' hbs hb0 hbp hI K hK => ?_) ?_
            · obtain ⟨us, hus, ha, hI⟩ := hI
              obtain ⟨u0, u1, u2, u3, u4, u5, u6, u7, u8, u9, u10, u11, u12, u13, u14, u15, u16, u17, u18, u19, u20, rfl⟩ := len21 hus
              have HI := Veil.mk hI
              clear hI
              rw [ha]
              simp only [puts, setAll, List.setIfInBounds_toArray, List.set_cons_zero, List.set_cons_succ]
              go_simp
              exact hK _ _ (chain_step HI.out hus hbs 4 _ (by show 4 < 21; decide) rfl hbp (val_of rfl rfl) (HI.out.ph.step 4 _ (by decide) (by decide) (by decide)) (by simp only [puts, setAll, List.set_cons_zero, List.set_cons_succ, List.setIfInBounds_toArray]))
            refine Steps.cons rfl (fun bb aa w' hbs hb0 hbp hI K hK => ?_) ?_
            · obtain ⟨us, hus, ha, hI⟩ := hI
              obtain ⟨u0, u1, u2, u3, u4, u5, u6, u7, u8, u9, u10, u11, u12, u13, u14, u15, u16, u17, u18, u19, u20, rfl⟩ := len21 hus
              have HI := Veil.mk hI
              clear hI
              rw [ha]
              simp only [puts, setAll, List.setIfInBounds_toArray, List.set_cons_zero, List.set_cons_succ]
              go_simp
              exact hK _ _ (chain_step HI.out hus hbs 5 _ (by show 5 < 21; decide) rfl hbp (val_of rfl rfl) (HI.out.ph.step 5 _ (by decide) (by decide) (by decide)) (by simp only [puts, setAll, List.set_cons_zero, List.set_cons_succ, List.setIfInBounds_toArray]))
            refine Steps.cons rfl (fun bb aa w' hbs hb0 hbp hI K hK => ?_) ?_
            · obtain ⟨us, hus, ha, hI⟩ := hI
              obtain ⟨u0, u1, u2, u3, u4, u5, u6, u7, u8, u9, u10, u11, u12, u13, u14, u15, u16, u17, u18, u19, u20, rfl⟩ := len21 hus
              have e4 : u4 = .slice (some ⟨lb, 0, none⟩) k k := hI.val 4 _ rfl (gen_after 4 (by kernel_rfl) hbp)
              subst e4
              have e5 : u5 = .int .i64 (i : Int) := hI.val 5 _ rfl (gen_after 5 (by kernel_rfl) hbp)
              subst e5
              have HI := Veil.mk hI
              clear hI
              rw [ha]
              simp only [puts, setAll, List.setIfInBounds_toArray, List.set_cons_zero, List.set_cons_succ]
              go_simp
              exact hK _ _ (chain_step HI.out hus hbs 6 _ (by show 6 < 21; decide) rfl hbp (val_of rfl rfl) (HI.out.ph.step 6 _ (by decide) (by decide) (by decide)) (by simp only [puts, setAll, List.set_cons_zero, List.set_cons_succ, List.setIfInBounds_toArray]))
            refine Steps.cons rfl (fun bb aa w' hbs hb0 hbp hI K hK => ?_) ?_
            · obtain ⟨us, hus, ha, hI⟩ := hI
              obtain ⟨u0, u1, u2, u3, u4, u5, u6, u7, u8, u9, u10, u11, u12, u13, u14, u15, u16, u17, u18, u19, u20, rfl⟩ := len21 hus
              have e6 : u6 = .pointer (some ⟨lb, i, none⟩) := hI.val 6 _ rfl (gen_after 6 (by kernel_rfl) hbp)
              subst e6
              have h8 := hI.before 8 7 rfl (by kernel_rfl) hb0
              have h9 := hI.before 9 8 rfl (by kernel_rfl) h8
              have h10 := hI.before 10 9 rfl (by kernel_rfl) h9
              have h17 := hI.before 17 10 rfl (by kernel_rfl) h10
              have h20 := hI.before 20 17 rfl (by kernel_rfl) h17
              have hch := hI.ph.below h20 h17
              have c0 : w'.cell? ⟨lb, i, none⟩ = some (ptrV nb) := by rw [(HLB.out.1.on hch HLB.out.1.lt).at_ i]; exact HLB.out.2
              have HI := Veil.mk hI
              clear hI
              clear h20
              clear h17
              clear h10
              clear h9
              clear h8
              rw [ha]
              simp only [puts, setAll, List.setIfInBounds_toArray, List.set_cons_zero, List.set_cons_succ]
              go_simp
              exact hK _ _ (chain_step HI.out hus hbs 7 _ (by show 7 < 21; decide) rfl hbp (val_of rfl rfl) (HI.out.ph.step 7 _ (by decide) (by decide) (by decide)) (by simp only [puts, setAll, List.set_cons_zero, List.set_cons_succ, List.setIfInBounds_toArray]))
            refine Steps.cons rfl (fun bb aa w' hbs hb0 hbp hI K hK => ?_) ?_
            · obtain ⟨us, hus, ha, hI⟩ := hI
              obtain ⟨u0, u1, u2, u3, u4, u5, u6, u7, u8, u9, u10, u11, u12, u13, u14, u15, u16, u17, u18, u19, u20, rfl⟩ := len21 hus
              have e7 : u7 = .pointer (some ⟨nb, 0, none⟩) := hI.val 7 _ rfl (gen_after 7 (by kernel_rfl) hbp)
              subst e7
              have HI := Veil.mk hI
              clear hI
              rw [ha]
              simp only [puts, setAll, List.setIfInBounds_toArray, List.set_cons_zero, List.set_cons_succ]
              go_simp
              exact hK _ _ (chain_step HI.out hus hbs 8 _ (by show 8 < 21; decide) rfl hbp (val_of rfl rfl) (HI.out.ph.step 8 _ (by decide) (by decide) (by decide)) (by simp only [puts, setAll, List.set_cons_zero, List.set_cons_succ, List.setIfInBounds_toArray]))
            refine Steps.cons rfl (fun bb aa w' hbs hb0 hbp hI K hK => ?_) ?_
            · obtain ⟨us, hus, ha, hI⟩ := hI
              obtain ⟨u0, u1, u2, u3, u4, u5, u6, u7, u8, u9, u10, u11, u12, u13, u14, u15, u16, u17, u18, u19, u20, rfl⟩ := len21 hus
              have e8 : u8 = .pointer (some ⟨nb, 0, none⟩) := hI.val 8 _ rfl (gen_after 8 (by kernel_rfl) hbp)
              subst e8
              have HI := Veil.mk hI
              clear hI
              rw [ha]
              simp only [puts, setAll, List.setIfInBounds_toArray, List.set_cons_zero, List.set_cons_succ]
              go_simp
              exact hK _ _ (chain_step HI.out hus hbs 9 _ (by show 9 < 21; decide) rfl hbp (val_of rfl rfl) (HI.out.ph.step 9 _ (by decide) (by decide) (by decide)) (by simp only [puts, setAll, List.set_cons_zero, List.set_cons_succ, List.setIfInBounds_toArray]))
            refine Steps.cons rfl (fun bb aa w' hbs hb0 hbp hI K hK => ?_) ?_
            · obtain ⟨us, hus, ha, hI⟩ := hI
              obtain ⟨u0, u1, u2, u3, u4, u5, u6, u7, u8, u9, u10, u11, u12, u13, u14, u15, u16, u17, u18, u19, u20, rfl⟩ := len21 hus
              have e9 : u9 = .pointer (some ⟨nb, 0, none⟩) := hI.val 9 _ rfl (gen_after 9 (by kernel_rfl) hbp)
              subst e9
              have h17 := hI.before 17 10 rfl (by kernel_rfl) hb0
              have h20 := hI.before 20 17 rfl (by kernel_rfl) h17
              have hch := hI.ph.below h20 h17
              have c0 : w'.cell? ⟨nb, 0, none⟩ = some V := (HNB.out.on hch HNB.out.lt).at_ 0
              have HI := Veil.mk hI
              clear hI
              clear h20
              clear h17
              rw [ha]
              simp only [puts, setAll, List.setIfInBounds_toArray, List.set_cons_zero, List.set_cons_succ]
              go_simp
              exact hK _ _ (chain_step HI.out hus hbs 10 _ (by show 10 < 21; decide) rfl hbp (val_of rfl rfl) (HI.out.ph.step 10 _ (by decide) (by decide) (by decide)) (by simp only [puts, setAll, List.set_cons_zero, List.set_cons_succ, List.setIfInBounds_toArray]))
            refine Steps.cons rfl (fun bb aa w' hbs hb0 hbp hI K hK => ?_) ?_
            · obtain ⟨us, hus, ha, hI⟩ := hI
              obtain ⟨u0, u1, u2, u3, u4, u5, u6, u7, u8, u9, u10, u11, u12, u13, u14, u15, u16, u17, u18, u19, u20, rfl⟩ := len21 hus
              have HI := Veil.mk hI
              clear hI
              rw [ha]
              simp only [puts, setAll, List.setIfInBounds_toArray, List.set_cons_zero, List.set_cons_succ]
              go_simp
              exact hK _ _ (chain_step HI.out hus hbs 11 _ (by show 11 < 21; decide) rfl hbp (val_of rfl rfl) (HI.out.ph.step 11 _ (by decide) (by decide) (by decide)) (by simp only [puts, setAll, List.set_cons_zero, List.set_cons_succ, List.setIfInBounds_toArray]))
            refine Steps.cons rfl (fun bb aa w' hbs hb0 hbp hI K hK => ?_) ?_
            · obtain ⟨us, hus, ha, hI⟩ := hI
              obtain ⟨u0, u1, u2, u3, u4, u5, u6, u7, u8, u9, u10, u11, u12, u13, u14, u15, u16, u17, u18, u19, u20, rfl⟩ := len21 hus
              have HI := Veil.mk hI
              clear hI
              rw [ha]
              simp only [puts, setAll, List.setIfInBounds_toArray, List.set_cons_zero, List.set_cons_succ]
              go_simp
              exact hK _ _ (chain_step HI.out hus hbs 12 _ (by show 12 < 21; decide) rfl hbp (val_of rfl rfl) (HI.out.ph.step 12 _ (by decide) (by decide) (by decide)) (by simp only [puts, setAll, List.set_cons_zero, List.set_cons_succ, List.setIfInBounds_toArray]))
            refine Steps.cons rfl (fun bb aa w' hbs hb0 hbp hI K hK => ?_) ?_
            · obtain ⟨us, hus, ha, hI⟩ := hI
              obtain ⟨u0, u1, u2, u3, u4, u5, u6, u7, u8, u9, u10, u11, u12, u13, u14, u15, u16, u17, u18, u19, u20, rfl⟩ := len21 hus
              have e12 : u12 = .int .i64 (i : Int) := hI.val 12 _ rfl (gen_after 12 (by kernel_rfl) hbp)
              subst e12
              have HI := Veil.mk hI
              clear hI
              rw [ha]
              simp only [puts, setAll, List.setIfInBounds_toArray, List.set_cons_zero, List.set_cons_succ]
              go_simp
              exact hK _ _ (chain_step HI.out hus hbs 13 _ (by show 13 < 21; decide) rfl hbp (val_of rfl rfl) (HI.out.ph.step 13 _ (by decide) (by decide) (by decide)) (by simp only [puts, setAll, List.set_cons_zero, List.set_cons_succ, List.setIfInBounds_toArray]))
            refine Steps.cons rfl (fun bb aa w' hbs hb0 hbp hI K hK => ?_) ?_
            · obtain ⟨us, hus, ha, hI⟩ := hI
              obtain ⟨u0, u1, u2, u3, u4, u5, u6, u7, u8, u9, u10, u11, u12, u13, u14, u15, u16, u17, u18, u19, u20, rfl⟩ := len21 hus
              have e11 : u11 = atV x := hI.val 11 _ rfl (gen_after 11 (by kernel_rfl) hbp)
              subst e11
              have e13 : u13 = .int .i64 ((i : Int) + 1) := hI.val 13 _ rfl (gen_after 13 (by kernel_rfl) hbp)
              subst e13
              have h15 := hI.before 15 14 rfl (by kernel_rfl) hb0
              have h16 := hI.before 16 15 rfl (by kernel_rfl) h15
              have h17 := hI.before 17 16 rfl (by kernel_rfl) h16
              have h20 := hI.before 20 17 rfl (by kernel_rfl) h17
              have hch := hI.ph.below h20 h17
              have HI := Veil.mk hI
              clear hI
              have HF := Veil.mk (And.intro h20 (And.intro h17 h16))
              clear h20
              clear h17
              clear h16
              clear h15
              rw [ha]
              simp only [puts, setAll, List.setIfInBounds_toArray, List.set_cons_zero, List.set_cons_succ]
              go_simp
              have cx := (HXB.out.on hch HXB.out.lt).at_ 0
              go_at_call 25
              refine (HAT.out _ cx).mono ?_
              rintro e9 w9 ⟨rfl, hb2⟩
              go_simp
              exact hK _ _ (chain_step HI.out hus hbs 14 _ (by show 14 < 21; decide) rfl hbp (val_of rfl rfl) (HI.out.ph.call 14 _ (by decide) (by decide) (by decide) HF.out.1 HF.out.2.1 hb2 HF.out.2.2) (by simp only [puts, setAll, List.set_cons_zero, List.set_cons_succ, List.setIfInBounds_toArray]))
            refine Steps.cons rfl (fun bb aa w' hbs hb0 hbp hI K hK => ?_) ?_
            · obtain ⟨us, hus, ha, hI⟩ := hI
              obtain ⟨u0, u1, u2, u3, u4, u5, u6, u7, u8, u9, u10, u11, u12, u13, u14, u15, u16, u17, u18, u19, u20, rfl⟩ := len21 hus
              have e14 : u14 = .int .i64 (v : Int) := hI.val 14 _ rfl (gen_after 14 (by kernel_rfl) hbp)
              subst e14
              have HI := Veil.mk hI
              clear hI
              rw [ha]
              simp only [puts, setAll, List.setIfInBounds_toArray, List.set_cons_zero, List.set_cons_succ]
              go_simp
              exact hK _ _ (chain_step HI.out hus hbs 15 _ (by show 15 < 21; decide) rfl hbp (val_of rfl rfl) (HI.out.ph.step 15 _ (by decide) (by decide) (by decide)) (by simp only [puts, setAll, List.set_cons_zero, List.set_cons_succ, List.setIfInBounds_toArray]))
            refine Steps.cons rfl (fun bb aa w' hbs hb0 hbp hI K hK => ?_) ?_
            · obtain ⟨us, hus, ha, hI⟩ := hI
              obtain ⟨u0, u1, u2, u3, u4, u5, u6, u7, u8, u9, u10, u11, u12, u13, u14, u15, u16, u17, u18, u19, u20, rfl⟩ := len21 hus
              have e15 : u15 = .int .i64 ((v : Int) + 1) := hI.val 15 _ rfl (gen_after 15 (by kernel_rfl) hbp)
              subst e15
              have h17 := hI.before 17 16 rfl (by kernel_rfl) hb0
              have h20 := hI.before 20 17 rfl (by kernel_rfl) h17
              have HI := Veil.mk hI
              clear hI
              have HF := Veil.mk (And.intro h20 h17)
              clear h20
              clear h17
              rw [ha]
              simp only [puts, setAll, List.setIfInBounds_toArray, List.set_cons_zero, List.set_cons_succ]
              go_simp
              exact hK _ _ (chain_step HI.out hus hbs 16 _ (by show 16 < 21; decide) rfl hbp (none_of rfl) (HI.out.ph.row (by decide) (by decide) HF.out.1 HF.out.2) (by simp only [puts, setAll, List.set_cons_zero, List.set_cons_succ, List.setIfInBounds_toArray]))
            refine Steps.cons rfl (fun bb aa w' hbs hb0 hbp hI K hK => ?_) ?_
            · obtain ⟨us, hus, ha, hI⟩ := hI
              obtain ⟨u0, u1, u2, u3, u4, u5, u6, u7, u8, u9, u10, u11, u12, u13, u14, u15, u16, u17, u18, u19, u20, rfl⟩ := len21 hus
              have e10 : V = u10 := (hI.val 10 _ rfl (gen_after 10 (by kernel_rfl) hbp) : u10 = V).symm
              subst e10
              have h20 := hI.before 20 17 rfl (by kernel_rfl) hb0
              have hp := hI.ph.at_bs h20 hb0 (gen_after 16 (by kernel_rfl) hbp)
              have HI := Veil.mk hI
              clear hI
              have HF := Veil.mk h20
              clear h20
              rw [ha]
              simp only [puts, setAll, List.setIfInBounds_toArray, List.set_cons_zero, List.set_cons_succ]
              clear ha
              obtain ⟨w2, hch, e16, rfl⟩ := hp
              have e : u16 = .slice (some ⟨w2.heap.size, 0, none⟩) 1 1 := e16
              clear e16
              subst e
              have hR2 := own_below HRW.out hch
              have hs2 := hch.size
              refine wp_append_lies _ (.tmp 62) (.tmp 68) 22 rfl A 3 i0 (.int .i64 0) 1 8 Try.underlying22 hi hz0 hz1 hz2 rfl (by decide) V T.length (intsV T) (by simp [Act.eval]) (hR2.alloc _) ⟨w2.heap.size, 0, none⟩ 1 1 [.int .i64 ((v : Int) + 1)] (by simp [Act.eval]) rfl (news_at _ _ rfl _ _) (by simp [Value.oneCell']) (by decide) (by unfold maxLen; omega) (by omega) (by simp; omega) _ rfl ?_; intro r cap' w3 hown' hgrow3 hblk hg3
              exact hK _ _ (chain_step HI.out hus hbs 17 _ (by show 17 < 21; decide) rfl hbp (none_of rfl) (AppPh.app (by decide) HF.out hch hown' hgrow3 hblk) (by simp only [Act.put, puts, setAll, List.set_cons_zero, List.set_cons_succ, List.setIfInBounds_toArray]))
            refine Steps.cons rfl (fun bb aa w' hbs hb0 hbp hI K hK => ?_) ?_
            · obtain ⟨us, hus, ha, hI⟩ := hI
              obtain ⟨u0, u1, u2, u3, u4, u5, u6, u7, u8, u9, u10, u11, u12, u13, u14, u15, u16, u17, u18, u19, u20, rfl⟩ := len21 hus
              have e3 : u3 = .pointer (some ⟨nb, 0, none⟩) := hI.val 3 _ rfl (gen_after 3 (by kernel_rfl) hbp)
              subst e3
              have HI := Veil.mk hI
              clear hI
              rw [ha]
              simp only [puts, setAll, List.setIfInBounds_toArray, List.set_cons_zero, List.set_cons_succ]
              go_simp
              exact hK _ _ (chain_step HI.out hus hbs 18 _ (by show 18 < 21; decide) rfl hbp (val_of rfl rfl) (HI.out.ph.step 18 _ (by decide) (by decide) (by decide)) (by simp only [puts, setAll, List.set_cons_zero, List.set_cons_succ, List.setIfInBounds_toArray]))
            refine Steps.cons rfl (fun bb aa w' hbs hb0 hbp hI K hK => ?_) ?_
            · obtain ⟨us, hus, ha, hI⟩ := hI
              obtain ⟨u0, u1, u2, u3, u4, u5, u6, u7, u8, u9, u10, u11, u12, u13, u14, u15, u16, u17, u18, u19, u20, rfl⟩ := len21 hus
              have e18 : u18 = .pointer (some ⟨nb, 0, none⟩) := hI.val 18 _ rfl (gen_after 18 (by kernel_rfl) hbp)
              subst e18
              have HI := Veil.mk hI
              clear hI
              rw [ha]
              simp only [puts, setAll, List.setIfInBounds_toArray, List.set_cons_zero, List.set_cons_succ]
              go_simp
              exact hK _ _ (chain_step HI.out hus hbs 19 _ (by show 19 < 21; decide) rfl hbp (val_of rfl rfl) (HI.out.ph.step 19 _ (by decide) (by decide) (by decide)) (by simp only [puts, setAll, List.set_cons_zero, List.set_cons_succ, List.setIfInBounds_toArray]))
            refine Steps.cons rfl (fun bb aa w' hbs hb0 hbp hI K hK => ?_) ?_
            · obtain ⟨us, hus, ha, hI⟩ := hI
              obtain ⟨u0, u1, u2, u3, u4, u5, u6, u7, u8, u9, u10, u11, u12, u13, u14, u15, u16, u17, u18, u19, u20, rfl⟩ := len21 hus
              have e19 : u19 = .pointer (some ⟨nb, 0, none⟩) := hI.val 19 _ rfl (gen_after 19 (by kernel_rfl) hbp)
              subst e19
              have hp := hI.ph.at_ap hb0 (gen_after 17 (by kernel_rfl) hbp)
              have HI := Veil.mk hI
              clear hI
              rw [ha]
              simp only [puts, setAll, List.setIfInBounds_toArray, List.set_cons_zero, List.set_cons_succ]
              clear ha
              obtain ⟨r, cap', e17, w2, hch, hown', hgrow3, hblk⟩ := hp
              have e : u17 = .slice (some ⟨r, 0, none⟩) (T.length + 1) cap' := e17
              clear e17
              subst e
              have hN2 := HNB.out.on hch HNB.out.lt
              have hR2 := own_below HRW.out hch
              have hx3 : Box w' nb 30 _ := (hN2.more _).grown hgrow3 (hN2.apart hR2 (by decide))
              have e12 : w'.cell? ⟨nb, 0, none⟩ = some V := hx3.at_ 0
              have e13 := hx3.free 0
              go_simp
              exact hK _ _ (chain_step HI.out hus hbs 20 undef (by show 20 < 21; decide) rfl hbp (none_of rfl) (AppPh.sto hch hown' hgrow3 hblk) (by simp only [puts, setAll, List.set_cons_zero, List.set_cons_succ, List.setIfInBounds_toArray]))
            exact Steps.nil
          · intro us w5 hus D hD2 hJ
            obtain ⟨y0, y1, y2, y3, y4, y5, y6, y7, y8, y9, y10, y11, y12, y13, y14, y15, y16, y17, y18, y19, y20, rfl⟩ := len21 hus
            obtain ⟨w3', r, cap', ⟨w2', hb2', ho', hg', hr'⟩, rfl⟩ := hJ.ph.at_st (hD2 20 (by show 20 < 21; decide))
            have HGR := Veil.mk (And.intro hb2' (And.intro ho' (And.intro hg' hr')))
            clear hJ hD2 hb2' ho' hg' hr'
            simp only [puts, setAll, List.set_cons_zero, List.set_cons_succ, List.setIfInBounds_toArray]
            obtain ⟨hs, hb, hto, htl, hm, hV, hT, hv, hnb⟩ := HST.out
            obtain ⟨hb2', ho', hg', hr'⟩ := HGR.out
            have hap := hs.app (v := (v : Int) + 1) hm hb2' (by rw [hT]; exact ho') (by rw [hV]; exact hg') (by rw [hV]; exact hr')
            rw [hT] at hap
            have HF := Veil.mk (And.intro hap.2 (And.intro (hb.trans hap.1) (And.intro (link_mem hT hv hnb hto) (len_more (y := (v : Int) + 1) hT htl))))
            clear hs hb hto htl hm hV hT hv hnb hb2' ho' hg' hr' hap HGR HST HNB HRW HLB HXB HTL HAT
            go_wp2
            go_round
            case rel => exact ⟨i + 1, _, _, by omega, by go_num, HF.out.1, HF.out.2.1, HF.out.2.2.1, HF.out.2.2.2⟩
            case measure => simp [intOf]; omega
        · obtain rfl : i = k := by omega
          have hit' : ¬ (i : Int) < (i : Int) := by omega
          have HC7 := Veil.mk (And.intro hs (And.intro hb (And.intro (show ∀ j nb, nbs[j]? = some nb → (((j + 1) % i + 1 : Nat) : Int) ∈ tos nb from fun j nb h => hto j nb (by have := (List.getElem?_eq_some_iff.1 h).1; omega) h) htl)))
          clear hs hb hto htl HC6
          go_upto_region 21 with (fail)
          go_loopw [75] (fun iv wr => ∃ (c : Nat) (rows : Nat → Value) (tos : Nat → List Int), c ≤ m ∧ iv = .int .i64 (c : Int) ∧ Cir A A lb i nbs rows tos cv fv rv wr ∧ Below A w3 wr ∧ (∀ j nb, nbs[j]? = some nb → (((j + 1) % i + 1 : Nat) : Int) ∈ tos nb) ∧ ∀ nb, (tos nb).length ≤ i + c) (fun i _ => m - (intOf i).toNat)
          case atStart => exact ⟨0, rows, tos, Nat.zero_le _, rfl, HC7.out.1, HC7.out.2.1, HC7.out.2.2.1, HC7.out.2.2.2⟩
          case round =>
            obtain ⟨c, rows, tos, hi9, rfl, hs, hb, hto, htl⟩ := hrel
            have hc0 : (0 : Int) ≤ (c : Int) := by omega
            by_cases hit : c < m
            · have hcm : (c : Int) < (m : Int) := by omega
              have hcb : (c : Int) < 1000 := by omega
              have hBwr : Below w.heap.size w wr := by rw [hx0]; exact HX3.out.1.trans (hb.mono (Nat.le_of_lt hxA))
              obtain ⟨b, o, rfl, hbl, hcc⟩ := (HN.out.on hBwr).2 (by omega)
              obtain ⟨d0, d1⟩ := hcc c hit
              obtain ⟨x0, hx0v⟩ : ∃ x0, (l[c]?.getD (0, 0)).1 = x0 := ⟨_, rfl⟩
              obtain ⟨x1, hx1v⟩ : ∃ x1, (l[c]?.getD (0, 0)).2 = x1 := ⟨_, rfl⟩
              rw [hx0v] at d0
              rw [hx1v] at d1
              have bbp : Below wr.heap.size wr (wr.alloc (.cells #[.int .i64 x0, .int .i64 x1] 32)) := (Below.refl _ _).alloc (Nat.le_refl _) _
              have bpr := Box.new wr 32 #[.int .i64 x0, .int .i64 x1]
              have bxr := ((HX3.out.2).on (B := A) hb hxA).on bbp ((HX3.out.2).on (B := A) hb hxA).lt
              have cxr : (wr.alloc (.cells #[.int .i64 x0, .int .i64 x1] 32)).cell? ⟨x, 0, none⟩ = some (.int .i64 (i : Int)) := bxr.at_ 0
              have HA1 := Veil.mk (at_any x i x0 hn0 hn12 _ cxr)
              have s1 := hs.on bbp
              have hAwr : A ≤ wr.heap.size := by have := hs.ar.box.lt; omega
              have HS1 := Veil.mk (And.intro s1 (And.intro (hb.trans (bbp.mono hAwr)) (And.intro bxr (And.intro bpr (And.intro hto htl)))))
              clear hs hb hto htl hBwr hcc hx0v hx1v bbp bpr bxr cxr s1 HC7
              go_upto_region 24 with (first | (go_at_call 25; ((with_reducible refine HA1.out.mono ?_); rintro e w7 ⟨rfl, hb7⟩)))
              clear d0 d1
              obtain ⟨s1, hbw1, bxr, bpr, hto, htl⟩ := HS1.out
              have s7 := s1.on hb7
              have hAw1 : A ≤ (wr.alloc (.cells #[.int .i64 x0, .int .i64 x1] 32)).heap.size := by have := s1.ar.box.lt; omega
              have hbw7 : Below A w3 w7 := hbw1.trans (hb7.mono hAw1)
              have bx7 := bxr.on hb7 bxr.lt
              have bp7 := bpr.on hb7 bpr.lt
              obtain ⟨pb, hpb⟩ : ∃ pb, wr.heap.size = pb := ⟨_, rfl⟩
              rw [hpb] at bp7 ⊢
              obtain ⟨p, hp⟩ : ∃ p, atN x0 i = p := ⟨_, rfl⟩
              rw [hp]
              have hpi : p < i := by rw [← hp]; exact atN_lt x0 hn0
              have hpi' : (p : Int) < (i : Int) := by omega
              have hp0 : (0 : Int) ≤ (p : Int) := by omega
              obtain ⟨nb, hnb⟩ : ∃ nb, nbs[p]? = some nb := ⟨_, List.getElem?_eq_getElem (by omega)⟩
              have hm := List.mem_of_getElem? hnb
              obtain ⟨z1, z2, z3, z4⟩ := s7.nod nb hm
              have hAw7 : A ≤ w7.heap.size := by have := s7.ar.box.lt; omega
              obtain ⟨cs, c1, c2, c3⟩ := s7.lbx
              have HLB := Veil.mk (And.intro c1 (c3 p nb hnb))
              have HTL := Veil.mk (htl nb)
              obtain ⟨V, hV⟩ : ∃ V, rows nb = V := ⟨_, rfl⟩
              obtain ⟨T, hT⟩ : ∃ T, tos nb = T := ⟨_, rfl⟩
              rw [hV] at z2 z3
              rw [hT] at z3 HTL
              have htl9 : T.length ≤ 112 := by have := HTL.out; omega
              have HNB := Veil.mk z2
              have HRW := Veil.mk z3
              have HXB := Veil.mk bx7
              have HPB := Veil.mk bp7
              obtain ⟨v, hv⟩ : ∃ v, atN x1 i = v := ⟨_, rfl⟩
              have hv12 : v < 12 := by have := atN_lt x1 hn0; omega
              have hv12' : (v : Int) < 12 := by omega
              have hv0 : (0 : Int) ≤ (v : Int) := by omega
              have qb : IntKind.i64.wrap ((v : Int) + 1) = (v : Int) + 1 := by rw [IntKind.wrap_i64]; omega
              have HAT : Veil (∀ w', w'.cell? ⟨x, 0, none⟩ = some (.int .i64 (i : Int)) → Calls Try.prog 25 #[.int .i64 x1, .pointer (some ⟨x, 0, none⟩)] w' fun e w9 => e = .returned (.int .i64 (v : Int)) ∧ Below w'.heap.size w' w9) := ⟨fun w' h => by rw [← hv]; exact at_any x i _ hn0 hn12 w' h⟩
              obtain ⟨i0, hi, hz0, hz1, hz2⟩ := info_parts Try.infoI
              have HST := Veil.mk (And.intro s7 (And.intro hbw7 (And.intro hto (And.intro htl (And.intro hm (And.intro hV hT))))))
              clear s7 s1 hbw1 hbw7 hto htl hm hV hT hv z1 z2 z3 z4 c1 c2 c3 bxr bpr bx7 bp7 hnb hp hpb HS1 HA1 hb7 hAw1
              refine wp_region_chain ([some (· = .slice (some ⟨lb, 0, none⟩) i i), some (· = .int .i64 (p : Int)), some (· = .pointer (some ⟨lb, p, none⟩)), some (· = .pointer (some ⟨nb, 0, none⟩)), some (· = .slice (some ⟨lb, 0, none⟩) i i), some (· = .int .i64 (p : Int)), some (· = .pointer (some ⟨lb, p, none⟩)), some (· = .pointer (some ⟨nb, 0, none⟩)), some (· = .pointer (some ⟨nb, 0, none⟩)), some (· = .pointer (some ⟨nb, 0, none⟩)), some (· = V), some (· = atV x), some (· = .pointer (some ⟨pb, 1, none⟩)), some (· = .int .i64 x1), some (· = .int .i64 (v : Int)), some (· = .int .i64 ((v : Int) + 1)), none, none, some (· = .pointer (some ⟨nb, 0, none⟩)), some (· = .pointer (some ⟨nb, 0, none⟩)), none] : List (Option (Value → Prop))) (AppPh w7 A 3 1 T.length (intsV T) [.int .i64 ((v : Int) + 1)] V nb 0 16 17 20) [some 83, some 84, some 85, some 86, some 87, some 88, some 89, some 90, some 91, some 92, some 93, some 94, some 95, some 96, some 97, some 98, some 99, some 100, some 101, some 102, none] (curV' _ [some 83, some 84, some 85, some 86, some 87, some 88, some 89, some 90, some 91, some 92, some 93, some 94, some 95, some 96, some 97, some 98, some 99, some 100, some 101, some 102, none]) (by kernel_rfl) rfl rfl (puts_cur _ _) (Below.refl _ _).drew ?_ (by kernel_rfl) ?_
              · refine Steps.cons rfl (fun bb aa w' hbs hb0 hbp hI K hK => ?_) ?_
                · obtain ⟨us, hus, ha, hI⟩ := hI
                  obtain ⟨u0, u1, u2, u3, u4, u5, u6, u7, u8, u9, u10, u11, u12, u13, u14, u15, u16, u17, u18, u19, u20, rfl⟩ := len21 hus
                  have HI := Veil.mk hI
                  clear hI
                  rw [ha]
                  simp only [puts, setAll, List.setIfInBounds_toArray, List.set_cons_zero, List.set_cons_succ]
                  go_simp
                  exact hK _ _ (chain_step HI.out hus hbs 0 _ (by show 0 < 21; decide) rfl hbp (val_of rfl rfl) (HI.out.ph.step 0 _ (by decide) (by decide) (by decide)) (by simp only [puts, setAll, List.set_cons_zero, List.set_cons_succ, List.setIfInBounds_toArray]))
                refine Steps.cons rfl (fun bb aa w' hbs hb0 hbp hI K hK => ?_) ?_
                · obtain ⟨us, hus, ha, hI⟩ := hI
                  obtain ⟨u0, u1, u2, u3, u4, u5, u6, u7, u8, u9, u10, u11, u12, u13, u14, u15, u16, u17, u18, u19, u20, rfl⟩ := len21 hus
                  have HI := Veil.mk hI
                  clear hI
                  rw [ha]
                  simp only [puts, setAll, List.setIfInBounds_toArray, List.set_cons_zero, List.set_cons_succ]
                  go_simp
                  exact hK _ _ (chain_step HI.out hus hbs 1 _ (by show 1 < 21; decide) rfl hbp (val_of rfl rfl) (HI.out.ph.step 1 _ (by decide) (by decide) (by decide)) (by simp only [puts, setAll, List.set_cons_zero, List.set_cons_succ, List.setIfInBounds_toArray]))
                refine Steps.cons rfl (fun bb aa w' hbs hb0 hbp hI K hK => ?_) ?_
                · obtain ⟨us, hus, ha, hI⟩ := hI
                  obtain ⟨u0, u1, u2, u3, u4, u5, u6, u7, u8, u9, u10, u11, u12, u13, u14, u15, u16, u17, u18, u19, u20, rfl⟩ := len21 hus
                  have e0 : u0 = .slice (some ⟨lb, 0, none⟩) i i := hI.val 0 _ rfl (gen_after 0 (by kernel_rfl) hbp)
                  subst e0
                  have e1 : u1 = .int .i64 (p : Int) := hI.val 1 _ rfl (gen_after 1 (by kernel_rfl) hbp)
                  subst e1
                  have HI := Veil.mk hI
                  clear hI
                  rw [ha]
                  simp only [puts, setAll, List.setIfInBounds_toArray, List.set_cons_zero, List.set_cons_succ]
                  go_simp
                  exact hK _ _ (chain_step HI.out hus hbs 2 _ (by show 2 < 21; decide) rfl hbp (val_of rfl rfl) (HI.out.ph.step 2 _ (by decide) (by decide) (by decide)) (by simp only [puts, setAll, List.set_cons_zero, List.set_cons_succ, List.setIfInBounds_toArray]))
                refine Steps.cons rfl (fun bb aa w' hbs hb0 hbp hI K hK => ?_) ?_
                · obtain ⟨us, hus, ha, hI⟩ := hI
                  obtain ⟨u0, u1, u2, u3, u4, u5, u6, u7, u8, u9, u10, u11, u12, u13, u14, u15, u16, u17, u18, u19, u20, rfl⟩ := len21 hus
                  have e2 : u2 = .pointer (some ⟨lb, p, none⟩) := hI.val 2 _ rfl (gen_after 2 (by kernel_rfl) hbp)
                  subst e2
                  have h18 := hI.before 18 3 rfl (by kernel_rfl) hb0
                  have h19 := hI.before 19 18 rfl (by kernel_rfl) h18
                  have h20 := hI.before 20 19 rfl (by kernel_rfl) h19
                  have hch := hI.ph.touch h20
                  have c0 : w'.cell? ⟨lb, p, none⟩ = some (ptrV nb) := by rw [(HLB.out.1.touch hch (fun e => (own_lab HRW.out lb e).ne HLB.out.1.lab (by decide) rfl)).at_ p]; exact HLB.out.2
                  have HI := Veil.mk hI
                  clear hI
                  clear h20
                  clear h19
                  clear h18
                  rw [ha]
                  simp only [puts, setAll, List.setIfInBounds_toArray, List.set_cons_zero, List.set_cons_succ]
                  go_simp
                  exact hK _ _ (chain_step HI.out hus hbs 3 _ (by show 3 < 21; decide) rfl hbp (val_of rfl rfl) (HI.out.ph.step 3 _ (by decide) (by decide) (by decide)) (by simp only [puts, setAll, List.set_cons_zero, List.set_cons_succ, List.setIfInBounds_toArray]))
                refine Steps.cons rfl (fun bb aa w' hbs hb0 hbp hI K hK => ?_) ?_
                · obtain ⟨us, hus, ha, hI⟩ := hI
                  obtain ⟨u0, u1, u2, u3, u4, u5, u6, u7, u8, u9, u10, u11, u12, u13, u14, u15, u16, u17, u18, u19, u20, rfl⟩ := len21 hus
                  have HI := Veil.mk hI
                  clear hI
                  rw [ha]
                  simp only [puts, setAll, List.setIfInBounds_toArray, List.set_cons_zero, List.set_cons_succ]
                  go_simp
                  exact hK _ _ (chain_step HI.out hus hbs 4 _ (by show 4 < 21; decide) rfl hbp (val_of rfl rfl) (HI.out.ph.step 4 _ (by decide) (by decide) (by decide)) (by simp only [puts, setAll, List.set_cons_zero, List.set_cons_succ, List.setIfInBounds_toArray]))
                refine Steps.cons rfl (fun bb aa w' hbs hb0 hbp hI K hK => ?_) ?_
                · obtain ⟨us, hus, ha, hI⟩ := hI
                  obtain ⟨u0, u1, u2, u3, u4, u5, u6, u7, u8, u9, u10, u11, u12, u13, u14, u15, u16, u17, u18, u19, u20, rfl⟩ := len21 hus
                  have HI := Veil.mk hI
                  clear hI
                  rw [ha]
                  simp only [puts, setAll, List.setIfInBounds_toArray, List.set_cons_zero, List.set_cons_succ]
                  go_simp
                  exact hK _ _ (chain_step HI.out hus hbs 5 _ (by show 5 < 21; decide) rfl hbp (val_of rfl rfl) (HI.out.ph.step 5 _ (by decide) (by decide) (by decide)) (by simp only [puts, setAll, List.set_cons_zero, List.set_cons_succ, List.setIfInBounds_toArray]))
                refine Steps.cons rfl (fun bb aa w' hbs hb0 hbp hI K hK => ?_) ?_
                · obtain ⟨us, hus, ha, hI⟩ := hI
                  obtain ⟨u0, u1, u2, u3, u4, u5, u6, u7, u8, u9, u10, u11, u12, u13, u14, u15, u16, u17, u18, u19, u20, rfl⟩ := len21 hus
                  have e4 : u4 = .slice (some ⟨lb, 0, none⟩) i i := hI.val 4 _ rfl (gen_after 4 (by kernel_rfl) hbp)
                  subst e4
                  have e5 : u5 = .int .i64 (p : Int) := hI.val 5 _ rfl (gen_after 5 (by kernel_rfl) hbp)
                  subst e5
                  have HI := Veil.mk hI
                  clear hI
                  rw [ha]
                  simp only [puts, setAll, List.setIfInBounds_toArray, List.set_cons_zero, List.set_cons_succ]
                  go_simp
                  exact hK _ _ (chain_step HI.out hus hbs 6 _ (by show 6 < 21; decide) rfl hbp (val_of rfl rfl) (HI.out.ph.step 6 _ (by decide) (by decide) (by decide)) (by simp only [puts, setAll, List.set_cons_zero, List.set_cons_succ, List.setIfInBounds_toArray]))
                refine Steps.cons rfl (fun bb aa w' hbs hb0 hbp hI K hK => ?_) ?_
                · obtain ⟨us, hus, ha, hI⟩ := hI
                  obtain ⟨u0, u1, u2, u3, u4, u5, u6, u7, u8, u9, u10, u11, u12, u13, u14, u15, u16, u17, u18, u19, u20, rfl⟩ := len21 hus
                  have e6 : u6 = .pointer (some ⟨lb, p, none⟩) := hI.val 6 _ rfl (gen_after 6 (by kernel_rfl) hbp)
                  subst e6
                  have h8 := hI.before 8 7 rfl (by kernel_rfl) hb0
                  have h9 := hI.before 9 8 rfl (by kernel_rfl) h8
                  have h10 := hI.before 10 9 rfl (by kernel_rfl) h9
                  have h17 := hI.before 17 10 rfl (by kernel_rfl) h10
                  have h20 := hI.before 20 17 rfl (by kernel_rfl) h17
                  have hch := hI.ph.below h20 h17
                  have c0 : w'.cell? ⟨lb, p, none⟩ = some (ptrV nb) := by rw [(HLB.out.1.on hch HLB.out.1.lt).at_ p]; exact HLB.out.2
                  have HI := Veil.mk hI
                  clear hI
                  clear h20
                  clear h17
                  clear h10
                  clear h9
                  clear h8
                  rw [ha]
                  simp only [puts, setAll, List.setIfInBounds_toArray, List.set_cons_zero, List.set_cons_succ]
                  go_simp
                  exact hK _ _ (chain_step HI.out hus hbs 7 _ (by show 7 < 21; decide) rfl hbp (val_of rfl rfl) (HI.out.ph.step 7 _ (by decide) (by decide) (by decide)) (by simp only [puts, setAll, List.set_cons_zero, List.set_cons_succ, List.setIfInBounds_toArray]))
                refine Steps.cons rfl (fun bb aa w' hbs hb0 hbp hI K hK => ?_) ?_
                · obtain ⟨us, hus, ha, hI⟩ := hI
                  obtain ⟨u0, u1, u2, u3, u4, u5, u6, u7, u8, u9, u10, u11, u12, u13, u14, u15, u16, u17, u18, u19, u20, rfl⟩ := len21 hus
                  have e7 : u7 = .pointer (some ⟨nb, 0, none⟩) := hI.val 7 _ rfl (gen_after 7 (by kernel_rfl) hbp)
                  subst e7
                  have HI := Veil.mk hI
                  clear hI
                  rw [ha]
                  simp only [puts, setAll, List.setIfInBounds_toArray, List.set_cons_zero, List.set_cons_succ]
                  go_simp
                  exact hK _ _ (chain_step HI.out hus hbs 8 _ (by show 8 < 21; decide) rfl hbp (val_of rfl rfl) (HI.out.ph.step 8 _ (by decide) (by decide) (by decide)) (by simp only [puts, setAll, List.set_cons_zero, List.set_cons_succ, List.setIfInBounds_toArray]))
                refine Steps.cons rfl (fun bb aa w' hbs hb0 hbp hI K hK => ?_) ?_
                · obtain ⟨us, hus, ha, hI⟩ := hI
                  obtain ⟨u0, u1, u2, u3, u4, u5, u6, u7, u8, u9, u10, u11, u12, u13, u14, u15, u16, u17, u18, u19, u20, rfl⟩ := len21 hus
                  have e8 : u8 = .pointer (some ⟨nb, 0, none⟩) := hI.val 8 _ rfl (gen_after 8 (by kernel_rfl) hbp)
                  subst e8
                  have HI := Veil.mk hI
                  clear hI
                  rw [ha]
                  simp only [puts, setAll, List.setIfInBounds_toArray, List.set_cons_zero, List.set_cons_succ]
                  go_simp
                  exact hK _ _ (chain_step HI.out hus hbs 9 _ (by show 9 < 21; decide) rfl hbp (val_of rfl rfl) (HI.out.ph.step 9 _ (by decide) (by decide) (by decide)) (by simp only [puts, setAll, List.set_cons_zero, List.set_cons_succ, List.setIfInBounds_toArray]))
                refine Steps.cons rfl (fun bb aa w' hbs hb0 hbp hI K hK => ?_) ?_
                · obtain ⟨us, hus, ha, hI⟩ := hI
                  obtain ⟨u0, u1, u2, u3, u4, u5, u6, u7, u8, u9, u10, u11, u12, u13, u14, u15, u16, u17, u18, u19, u20, rfl⟩ := len21 hus
                  have e9 : u9 = .pointer (some ⟨nb, 0, none⟩) := hI.val 9 _ rfl (gen_after 9 (by kernel_rfl) hbp)
                  subst e9
                  have h17 := hI.before 17 10 rfl (by kernel_rfl) hb0
                  have h20 := hI.before 20 17 rfl (by kernel_rfl) h17
                  have hch := hI.ph.below h20 h17
                  have c0 : w'.cell? ⟨nb, 0, none⟩ = some V := (HNB.out.on hch HNB.out.lt).at_ 0
                  have HI := Veil.mk hI
                  clear hI
                  clear h20
                  clear h17
                  rw [ha]
                  simp only [puts, setAll, List.setIfInBounds_toArray, List.set_cons_zero, List.set_cons_succ]
                  go_simp
                  exact hK _ _ (chain_step HI.out hus hbs 10 _ (by show 10 < 21; decide) rfl hbp (val_of rfl rfl) (HI.out.ph.step 10 _ (by decide) (by decide) (by decide)) (by simp only [puts, setAll, List.set_cons_zero, List.set_cons_succ, List.setIfInBounds_toArray]))
                refine Steps.cons rfl (fun bb aa w' hbs hb0 hbp hI K hK => ?_) ?_
                · obtain ⟨us, hus, ha, hI⟩ := hI
                  obtain ⟨u0, u1, u2, u3, u4, u5, u6, u7, u8, u9, u10, u11, u12, u13, u14, u15, u16, u17, u18, u19, u20, rfl⟩ := len21 hus
                  have HI := Veil.mk hI
                  clear hI
                  rw [ha]
                  simp only [puts, setAll, List.setIfInBounds_toArray, List.set_cons_zero, List.set_cons_succ]
                  go_simp
                  exact hK _ _ (chain_step HI.out hus hbs 11 _ (by show 11 < 21; decide) rfl hbp (val_of rfl rfl) (HI.out.ph.step 11 _ (by decide) (by decide) (by decide)) (by simp only [puts, setAll, List.set_cons_zero, List.set_cons_succ, List.setIfInBounds_toArray]))
                refine Steps.cons rfl (fun bb aa w' hbs hb0 hbp hI K hK => ?_) ?_
                · obtain ⟨us, hus, ha, hI⟩ := hI
                  obtain ⟨u0, u1, u2, u3, u4, u5, u6, u7, u8, u9, u10, u11, u12, u13, u14, u15, u16, u17, u18, u19, u20, rfl⟩ := len21 hus
                  have HI := Veil.mk hI
                  clear hI
                  rw [ha]
                  simp only [puts, setAll, List.setIfInBounds_toArray, List.set_cons_zero, List.set_cons_succ]
                  go_simp
                  exact hK _ _ (chain_step HI.out hus hbs 12 _ (by show 12 < 21; decide) rfl hbp (val_of rfl rfl) (HI.out.ph.step 12 _ (by decide) (by decide) (by decide)) (by simp only [puts, setAll, List.set_cons_zero, List.set_cons_succ, List.setIfInBounds_toArray]))
                refine Steps.cons rfl (fun bb aa w' hbs hb0 hbp hI K hK => ?_) ?_
                · obtain ⟨us, hus, ha, hI⟩ := hI
                  obtain ⟨u0, u1, u2, u3, u4, u5, u6, u7, u8, u9, u10, u11, u12, u13, u14, u15, u16, u17, u18, u19, u20, rfl⟩ := len21 hus
                  have e12 : u12 = .pointer (some ⟨pb, 1, none⟩) := hI.val 12 _ rfl (gen_after 12 (by kernel_rfl) hbp)
                  subst e12
                  have h14 := hI.before 14 13 rfl (by kernel_rfl) hb0
                  have h15 := hI.before 15 14 rfl (by kernel_rfl) h14
                  have h16 := hI.before 16 15 rfl (by kernel_rfl) h15
                  have h17 := hI.before 17 16 rfl (by kernel_rfl) h16
                  have h20 := hI.before 20 17 rfl (by kernel_rfl) h17
                  have hch := hI.ph.below h20 h17
                  have c1 : w'.cell? ⟨pb, 1, none⟩ = some (.int .i64 x1) := (HPB.out.on hch HPB.out.lt).at_ 1
                  have HI := Veil.mk hI
                  clear hI
                  clear h20
                  clear h17
                  clear h16
                  clear h15
                  clear h14
                  rw [ha]
                  simp only [puts, setAll, List.setIfInBounds_toArray, List.set_cons_zero, List.set_cons_succ]
                  go_simp
                  exact hK _ _ (chain_step HI.out hus hbs 13 _ (by show 13 < 21; decide) rfl hbp (val_of rfl rfl) (HI.out.ph.step 13 _ (by decide) (by decide) (by decide)) (by simp only [puts, setAll, List.set_cons_zero, List.set_cons_succ, List.setIfInBounds_toArray]))
                refine Steps.cons rfl (fun bb aa w' hbs hb0 hbp hI K hK => ?_) ?_
                · obtain ⟨us, hus, ha, hI⟩ := hI
                  obtain ⟨u0, u1, u2, u3, u4, u5, u6, u7, u8, u9, u10, u11, u12, u13, u14, u15, u16, u17, u18, u19, u20, rfl⟩ := len21 hus
                  have e11 : u11 = atV x := hI.val 11 _ rfl (gen_after 11 (by kernel_rfl) hbp)
                  subst e11
                  have e13 : u13 = .int .i64 x1 := hI.val 13 _ rfl (gen_after 13 (by kernel_rfl) hbp)
                  subst e13
                  have h15 := hI.before 15 14 rfl (by kernel_rfl) hb0
                  have h16 := hI.before 16 15 rfl (by kernel_rfl) h15
                  have h17 := hI.before 17 16 rfl (by kernel_rfl) h16
                  have h20 := hI.before 20 17 rfl (by kernel_rfl) h17
                  have hch := hI.ph.below h20 h17
                  have HI := Veil.mk hI
                  clear hI
                  have HF := Veil.mk (And.intro h20 (And.intro h17 h16))
                  clear h20
                  clear h17
                  clear h16
                  clear h15
                  rw [ha]
                  simp only [puts, setAll, List.setIfInBounds_toArray, List.set_cons_zero, List.set_cons_succ]
                  go_simp
                  have cx := (HXB.out.on hch HXB.out.lt).at_ 0
                  go_at_call 25
                  refine (HAT.out _ cx).mono ?_
                  rintro e9 w9 ⟨rfl, hb2⟩
                  go_simp
                  exact hK _ _ (chain_step HI.out hus hbs 14 _ (by show 14 < 21; decide) rfl hbp (val_of rfl rfl) (HI.out.ph.call 14 _ (by decide) (by decide) (by decide) HF.out.1 HF.out.2.1 hb2 HF.out.2.2) (by simp only [puts, setAll, List.set_cons_zero, List.set_cons_succ, List.setIfInBounds_toArray]))
                refine Steps.cons rfl (fun bb aa w' hbs hb0 hbp hI K hK => ?_) ?_
                · obtain ⟨us, hus, ha, hI⟩ := hI
                  obtain ⟨u0, u1, u2, u3, u4, u5, u6, u7, u8, u9, u10, u11, u12, u13, u14, u15, u16, u17, u18, u19, u20, rfl⟩ := len21 hus
                  have e14 : u14 = .int .i64 (v : Int) := hI.val 14 _ rfl (gen_after 14 (by kernel_rfl) hbp)
                  subst e14
                  have HI := Veil.mk hI
                  clear hI
                  rw [ha]
                  simp only [puts, setAll, List.setIfInBounds_toArray, List.set_cons_zero, List.set_cons_succ]
                  go_simp
                  exact hK _ _ (chain_step HI.out hus hbs 15 _ (by show 15 < 21; decide) rfl hbp (val_of rfl rfl) (HI.out.ph.step 15 _ (by decide) (by decide) (by decide)) (by simp only [puts, setAll, List.set_cons_zero, List.set_cons_succ, List.setIfInBounds_toArray]))
                refine Steps.cons rfl (fun bb aa w' hbs hb0 hbp hI K hK => ?_) ?_
                · obtain ⟨us, hus, ha, hI⟩ := hI
                  obtain ⟨u0, u1, u2, u3, u4, u5, u6, u7, u8, u9, u10, u11, u12, u13, u14, u15, u16, u17, u18, u19, u20, rfl⟩ := len21 hus
                  have e15 : u15 = .int .i64 ((v : Int) + 1) := hI.val 15 _ rfl (gen_after 15 (by kernel_rfl) hbp)
                  subst e15
                  have h17 := hI.before 17 16 rfl (by kernel_rfl) hb0
                  have h20 := hI.before 20 17 rfl (by kernel_rfl) h17
                  have HI := Veil.mk hI
                  clear hI
                  have HF := Veil.mk (And.intro h20 h17)
                  clear h20
                  clear h17
                  rw [ha]
                  simp only [puts, setAll, List.setIfInBounds_toArray, List.set_cons_zero, List.set_cons_succ]
                  go_simp
                  exact hK _ _ (chain_step HI.out hus hbs 16 _ (by show 16 < 21; decide) rfl hbp (none_of rfl) (HI.out.ph.row (by decide) (by decide) HF.out.1 HF.out.2) (by simp only [puts, setAll, List.set_cons_zero, List.set_cons_succ, List.setIfInBounds_toArray]))
                refine Steps.cons rfl (fun bb aa w' hbs hb0 hbp hI K hK => ?_) ?_
                · obtain ⟨us, hus, ha, hI⟩ := hI
                  obtain ⟨u0, u1, u2, u3, u4, u5, u6, u7, u8, u9, u10, u11, u12, u13, u14, u15, u16, u17, u18, u19, u20, rfl⟩ := len21 hus
                  have e10 : V = u10 := (hI.val 10 _ rfl (gen_after 10 (by kernel_rfl) hbp) : u10 = V).symm
                  subst e10
                  have h20 := hI.before 20 17 rfl (by kernel_rfl) hb0
                  have hp := hI.ph.at_bs h20 hb0 (gen_after 16 (by kernel_rfl) hbp)
                  have HI := Veil.mk hI
                  clear hI
                  have HF := Veil.mk h20
                  clear h20
                  rw [ha]
                  simp only [puts, setAll, List.setIfInBounds_toArray, List.set_cons_zero, List.set_cons_succ]
                  clear ha
                  obtain ⟨w2, hch, e16, rfl⟩ := hp
                  have e : u16 = .slice (some ⟨w2.heap.size, 0, none⟩) 1 1 := e16
                  clear e16
                  subst e
                  have hR2 := own_below HRW.out hch
                  have hs2 := hch.size
                  refine wp_append_lies _ (.tmp 93) (.tmp 99) 22 rfl A 3 i0 (.int .i64 0) 1 8 Try.underlying22 hi hz0 hz1 hz2 rfl (by decide) V T.length (intsV T) (by simp [Act.eval]) (hR2.alloc _) ⟨w2.heap.size, 0, none⟩ 1 1 [.int .i64 ((v : Int) + 1)] (by simp [Act.eval]) rfl (news_at _ _ rfl _ _) (by simp [Value.oneCell']) (by decide) (by unfold maxLen; omega) (by omega) (by simp; omega) _ rfl ?_; intro r cap' w3 hown' hgrow3 hblk hg3
                  exact hK _ _ (chain_step HI.out hus hbs 17 _ (by show 17 < 21; decide) rfl hbp (none_of rfl) (AppPh.app (by decide) HF.out hch hown' hgrow3 hblk) (by simp only [Act.put, puts, setAll, List.set_cons_zero, List.set_cons_succ, List.setIfInBounds_toArray]))
                refine Steps.cons rfl (fun bb aa w' hbs hb0 hbp hI K hK => ?_) ?_
                · obtain ⟨us, hus, ha, hI⟩ := hI
                  obtain ⟨u0, u1, u2, u3, u4, u5, u6, u7, u8, u9, u10, u11, u12, u13, u14, u15, u16, u17, u18, u19, u20, rfl⟩ := len21 hus
                  have e3 : u3 = .pointer (some ⟨nb, 0, none⟩) := hI.val 3 _ rfl (gen_after 3 (by kernel_rfl) hbp)
                  subst e3
                  have HI := Veil.mk hI
                  clear hI
                  rw [ha]
                  simp only [puts, setAll, List.setIfInBounds_toArray, List.set_cons_zero, List.set_cons_succ]
                  go_simp
                  exact hK _ _ (chain_step HI.out hus hbs 18 _ (by show 18 < 21; decide) rfl hbp (val_of rfl rfl) (HI.out.ph.step 18 _ (by decide) (by decide) (by decide)) (by simp only [puts, setAll, List.set_cons_zero, List.set_cons_succ, List.setIfInBounds_toArray]))
                refine Steps.cons rfl (fun bb aa w' hbs hb0 hbp hI K hK => ?_) ?_
                · obtain ⟨us, hus, ha, hI⟩ := hI
                  obtain ⟨u0, u1, u2, u3, u4, u5, u6, u7, u8, u9, u10, u11, u12, u13, u14, u15, u16, u17, u18, u19, u20, rfl⟩ := len21 hus
                  have e18 : u18 = .pointer (some ⟨nb, 0, none⟩) := hI.val 18 _ rfl (gen_after 18 (by kernel_rfl) hbp)
                  subst e18
                  have HI := Veil.mk hI
                  clear hI
                  rw [ha]
                  simp only [puts, setAll, List.setIfInBounds_toArray, List.set_cons_zero, List.set_cons_succ]
                  go_simp
                  exact hK _ _ (chain_step HI.out hus hbs 19 _ (by show 19 < 21; decide) rfl hbp (val_of rfl rfl) (HI.out.ph.step 19 _ (by decide) (by decide) (by decide)) (by simp only [puts, setAll, List.set_cons_zero, List.set_cons_succ, List.setIfInBounds_toArray]))
                refine Steps.cons rfl (fun bb aa w' hbs hb0 hbp hI K hK => ?_) ?_
                · obtain ⟨us, hus, ha, hI⟩ := hI
                  obtain ⟨u0, u1, u2, u3, u4, u5, u6, u7, u8, u9, u10, u11, u12, u13, u14, u15, u16, u17, u18, u19, u20, rfl⟩ := len21 hus
                  have e19 : u19 = .pointer (some ⟨nb, 0, none⟩) := hI.val 19 _ rfl (gen_after 19 (by kernel_rfl) hbp)
                  subst e19
                  have hp := hI.ph.at_ap hb0 (gen_after 17 (by kernel_rfl) hbp)
                  have HI := Veil.mk hI
                  clear hI
                  rw [ha]
                  simp only [puts, setAll, List.setIfInBounds_toArray, List.set_cons_zero, List.set_cons_succ]
                  clear ha
                  obtain ⟨r, cap', e17, w2, hch, hown', hgrow3, hblk⟩ := hp
                  have e : u17 = .slice (some ⟨r, 0, none⟩) (T.length + 1) cap' := e17
                  clear e17
                  subst e
                  have hN2 := HNB.out.on hch HNB.out.lt
                  have hR2 := own_below HRW.out hch
                  have hx3 : Box w' nb 30 _ := (hN2.more _).grown hgrow3 (hN2.apart hR2 (by decide))
                  have e12 : w'.cell? ⟨nb, 0, none⟩ = some V := hx3.at_ 0
                  have e13 := hx3.free 0
                  go_simp
                  exact hK _ _ (chain_step HI.out hus hbs 20 undef (by show 20 < 21; decide) rfl hbp (none_of rfl) (AppPh.sto hch hown' hgrow3 hblk) (by simp only [puts, setAll, List.set_cons_zero, List.set_cons_succ, List.setIfInBounds_toArray]))
                exact Steps.nil
              · intro us w5 hus D hD2 hJ
                obtain ⟨y0, y1, y2, y3, y4, y5, y6, y7, y8, y9, y10, y11, y12, y13, y14, y15, y16, y17, y18, y19, y20, rfl⟩ := len21 hus
                obtain ⟨w3', r, cap', ⟨w2', hb2', ho', hg', hr'⟩, rfl⟩ := hJ.ph.at_st (hD2 20 (by show 20 < 21; decide))
                have HGR := Veil.mk (And.intro hb2' (And.intro ho' (And.intro hg' hr')))
                clear hJ hD2 hb2' ho' hg' hr'
                simp only [puts, setAll, List.set_cons_zero, List.set_cons_succ, List.setIfInBounds_toArray]
                obtain ⟨hs, hb, hto, htl, hm, hV, hT⟩ := HST.out
                obtain ⟨hb2', ho', hg', hr'⟩ := HGR.out
                have hap := hs.app (v := (v : Int) + 1) hm hb2' (by rw [hT]; exact ho') (by rw [hV]; exact hg') (by rw [hV]; exact hr')
                rw [hT] at hap
                have HF := Veil.mk (And.intro hap.2 (And.intro (hb.trans hap.1) (And.intro (show ∀ j nb', nbs[j]? = some nb' → (((j + 1) % i + 1 : Nat) : Int) ∈ (if nb' = nb then T ++ [(v : Int) + 1] else tos nb') from fun j nb' h => mem_more hT (hto j nb' h)) (len_more (y := (v : Int) + 1) hT htl))))
                clear hs hb hto htl hm hV hT hb2' ho' hg' hr' hap HGR HST HNB HRW HLB HXB HPB HTL HAT
                go_wp2
                go_round
                case rel => exact ⟨c + 1, _, _, by omega, by go_num, HF.out.1, HF.out.2.1, HF.out.2.2.1, HF.out.2.2.2⟩
                case measure => simp [intOf]; omega
            · obtain rfl : c = m := by omega
              have hcm : ¬ (c : Int) < (c : Int) := by omega
              have hsy := hs.sys (fun nb _ => by have := htl nb; omega)
              have bxr := (HX3.out.2).on (B := A) hb hxA
              have cxr : wr.cell? ⟨x, 0, none⟩ = some (.int .i64 (i : Int)) := bxr.at_ 0
              have HA2 := Veil.mk (at_any x i root hn0 hn12 wr cxr)
              have hAwr : A ≤ wr.heap.size := by have := hsy.ar.box.lt; omega
              have HC8 := Veil.mk (And.intro hsy (And.intro hb (And.intro hto (And.intro hnl (And.intro bxr hAwr)))))
              clear hs hsy hb hto htl HC7 bxr cxr hAwr
              obtain ⟨p, hp⟩ : ∃ p, atN root i = p := ⟨_, rfl⟩
              rw [hp] at HA2
              have hpi : p < i := by rw [← hp]; exact atN_lt root hn0
              have hp12 : (p : Int) < 12 := by omega
              have hp0 : (0 : Int) ≤ (p : Int) := by omega
              have HPU : Veil (∀ w7 : World, Below wr.heap.size wr w7 → Calls Try.prog 11 #[.pointer (some ⟨A, 0, none⟩), .slice (some ⟨w7.heap.size, 0, none⟩) 1 1] (w7.alloc (.cells #[.int .i64 ((p : Int) + 1)] 3)) fun e w' => e = .returned (.tuple #[]) ∧ Below A w3 w' ∧ ∃ cv' fv' rv', Sys A A (dN nbs [((p + 1 : Nat) : Int)]) tos noEn cv' fv' rv' w') := ⟨fun w7 hb7 => by
                obtain ⟨hsy, hb, hto, hnl, bxr, hAwr⟩ := HC8.out
                have s7 := hsy.below hb7
                have hA7 : A ≤ w7.heap.size := by have := hb7.size; omega
                have bb : Below w7.heap.size w7 (w7.alloc (.cells #[.int .i64 ((p : Int) + 1)] 3)) := (Below.refl _ _).alloc (Nat.le_refl _) _
                have s8 := s7.below bb
                refine (sys_push s8 w7.heap.size ((p : Int) + 1) ((Box.new w7 _ _).at_ 0) (by show 0 < 1000000; omega)).mono ?_
                rintro e w9 ⟨rfl, cv9, fv9, rv9, hp9⟩
                exact ⟨rfl, ((hb.trans (hb7.mono hAwr)).trans (bb.mono hA7)).trans (hp9.below s8), cv9, fv9, rv9, hp9.sys⟩⟩
              go_upto_region 27 with (first | (go_at_call 25; ((with_reducible refine HA2.out.mono ?_); rintro e w7 ⟨rfl, hb7⟩)) | (go_at_call 11; ((with_reducible refine (HPU.out _ hb7).mono ?_); rintro e w9 ⟨rfl, hb9, cv9, fv9, rv9, hs9⟩)))
              have HK := Veil.mk (circ_keep HC8.out.2.2.2.1 hn12 hpi (fun j nb h => HC8.out.2.2.1 j nb h) hs9)
              have hb9' := Veil.mk hb9
              clear hs9 hb9
              go_upto_region 29 with (first | (go_at_call 12; ((with_reducible refine HK.out.mono ?_); rintro e w10 ⟨a10, c10, fv10, rfl, hb10, hs10⟩)))
              have HPO : Veil (Calls Try.prog 18 #[.pointer (some ⟨A, 0, none⟩), .int .i64 1] w10 fun e w' => e = .returned (.tuple #[]) ∧ Below A w10 w' ∧ ∃ cv' fv' rv', Sys A A (dN nbs []) tos noEn cv' fv' rv' w') := ⟨(sys_pop hs10 1 (by show 1 ≤ 1; omega) (by show 0 < 1; omega) (by show 1 < 1000000; omega)).mono fun e w' h => ⟨h.1, by
                obtain ⟨cv', fv', rv', h9⟩ := h.2
                exact ⟨h9.below hs10, cv', fv', rv', h9.sys⟩⟩⟩
              have hb10' := Veil.mk (hb9'.out.trans hb10)
              clear hs10 hb10
              go_upto_region 30 with (first | (go_at_call 18; ((with_reducible refine HPO.out.mono ?_); rintro e w11 ⟨rfl, hb11, cv11, fv11, rv11, hs11⟩)))
              have hb3 : Below A w3 w11 := hb10'.out.trans hb11
              have bx11 := (HX3.out.2).on (B := A) hb3 hxA
              have cx11 : w11.cell? ⟨x, 0, none⟩ = some (.int .i64 (i : Int)) := bx11.at_ 0
              have HGO : Veil (∀ w12 : World, Below w11.heap.size w11 w12 → Calls Try.prog 12 #[.pointer (some ⟨A, 0, none⟩), .nilFunc] w12 fun e w' => ∃ a c, e = .returned (.slice a i c) ∧ w'.cell? ⟨x, 0, none⟩ = some (.int .i64 (i : Int)) ∧ Below A w3 w' ∧ ∀ w9, Below w'.heap.size w' w9 → Calls Try.prog 13 #[.pointer (some ⟨A, 0, none⟩)] w9 fun e w'' => e = .returned (.int .i64 0) ∧ w'' = w9) := ⟨fun w12 hb12 => by
                have hA11 : A ≤ w11.heap.size := by have := hs11.ar.box.lt; omega
                refine (circ_go HC8.out.2.2.2.1 hn12 (hs11.below hb12)).mono ?_
                rintro e w13 ⟨a13, c13, rfl, hb13, d, en, fv13, hd0, hs13⟩
                have hb133 : Below A w3 w13 := (hb3.trans (hb12.mono hA11)).trans hb13
                refine ⟨a13, c13, rfl, ((HX3.out.2).on (B := A) hb133 hxA).at_ 0, hb133, fun w9 hb9 => ?_⟩
                have h := count_any A A _ _ _ d w9 (hs13.below hb9).ar
                rw [hd0] at h
                exact h⟩
              clear hs11 hb11 bx11 hb10' HPO HK HPU HA2 hb3
              have q0 : ((i : Int) == (i : Int)) = true := by simp
              go_region_with (first | (go_at_call 12; ((with_reducible refine (HGO.out _ (by repeat (first | (with_reducible exact Below.refl _ _) | (with_reducible refine Below.drew ?_)))).mono ?_); rintro e w13 ⟨a13, c13, rfl, cx13, hb13, HCN⟩; have HB13 := Veil.mk hb13; clear hb13)) | (go_at_call 13; ((with_reducible refine (HCN _ (Below.refl _ _)).mono ?_); rintro e9 w14 ⟨rfl, h14⟩; subst w14)))
              all_goals (go_wp2; go_ret; exact ⟨rfl, by rw [hx0]; exact HX3.out.1.trans (HB13.out.mono (Nat.le_of_lt hxA))⟩)
end Go.Proofs.Ytkkbfadfgdjkdaa
