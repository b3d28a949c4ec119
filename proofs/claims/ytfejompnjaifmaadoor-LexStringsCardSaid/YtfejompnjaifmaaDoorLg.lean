/- Package lex: number. -/
import Derived.Test.YtfejompnjaifmaaDoorLf
import Derived.Lib.SmallJoins
namespace Go.Proofs.YtfejompnjaifmaaDoor
open Go Go.RowKit

/-- What the package variables hold that lex reaches. -/
structure Gl (w : World) : Prop where
  m : ∃ m : Int, w.cell? ⟨0, 0, none⟩ = some (.int .i64 m)
  e : ∃ ev, w.cell? ⟨2, 0, none⟩ = some ev ∧ (ev = .nilIface ∨ ∃ te pe, ev = .iface te pe)
  le : 6 ≤ w.heap.size
theorem Gl.on {w w' : World} (h : Gl w) (hb : Below w.heap.size w w') : Gl w' := by
  obtain ⟨⟨m, h1⟩, ⟨ev, h2, h3⟩, h4⟩ := h
  exact ⟨⟨m, (hb.cell (p := ⟨0, 0, none⟩) (by show 0 < _; omega)).trans h1⟩, ⟨ev, (hb.cell (p := ⟨2, 0, none⟩) (by show 2 < _; omega)).trans h2, h3⟩, Nat.le_trans h4 hb.size⟩
theorem uint_digs (M : Nat) : ∀ (l : By) (acc : Nat), (∀ c ∈ l, digB c = true) → Lib.parseUintM M acc l ≠ .«syntax»
  | [], acc, _ => by unfold Lib.parseUintM; exact nofun
  | c :: r, acc, h => by
    have hc : 48 ≤ c.toNat ∧ c.toNat ≤ 57 := of_decide_eq_true (h c (List.mem_cons_self ..))
    unfold Lib.parseUintM
    rw [if_pos hc]
    split
    · exact nofun
    · split
      · exact nofun
      · exact uint_digs M r _ (fun x hx => h x (List.mem_cons_of_mem _ hx))
theorem int_digs (l : By) (hl : l ≠ []) (h : ∀ c ∈ l, digB c = true) : Lib.parseIntB 64 l ≠ .«syntax» := by
  cases l with
  | nil => exact absurd rfl hl
  | cons c r =>
    have hc : 48 ≤ c.toNat ∧ c.toNat ≤ 57 := of_decide_eq_true (h c (List.mem_cons_self ..))
    have hu := uint_digs (2 ^ 64 - 1) (c :: r) 0 h
    unfold Lib.parseIntB
    simp only
    rw [if_neg (by omega)]
    have e : Lib.parseUintB 64 (c :: r) = Lib.parseUintM (2 ^ 64 - 1) 0 (c :: r) := by unfold Lib.parseUintB; rw [if_neg (by simp)]
    rw [e]
    cases hq : Lib.parseUintM (2 ^ 64 - 1) 0 (c :: r) with
    | «syntax» => exact absurd hq hu
    | range => exact nofun
    | ok u =>
      simp only
      split
      · exact nofun
      · split
        · exact nofun
        · exact nofun
theorem fill4 {w0 w : World} {g : Nat} {a0 a1 a2 a3 : Value} (h : Box w g 31 #[a0, a1, a2, a3]) (a b c d : Value) (hb : Below w0.heap.size w0 w) (hg : w0.heap.size ≤ g) :
    Box ((((w.setCell ⟨g, 0, none⟩ a).setCell ⟨g, 1, none⟩ b).setCell ⟨g, 2, none⟩ c).setCell ⟨g, 3, none⟩ d) g 31 #[a, b, c, d] ∧ Below w0.heap.size w0 ((((w.setCell ⟨g, 0, none⟩ a).setCell ⟨g, 1, none⟩ b).setCell ⟨g, 2, none⟩ c).setCell ⟨g, 3, none⟩ d) :=
  ⟨(((h.put 0 a).put 1 b).put 2 c).put 3 d, (((hb.setCell (p := ⟨g, 0, none⟩) hg _).setCell (p := ⟨g, 1, none⟩) hg _).setCell (p := ⟨g, 2, none⟩) hg _).setCell (p := ⟨g, 3, none⟩) hg _⟩
/-- What ParseInt leaves, of digits. -/
def ParP (l : By) (w : World) (e : Ending) (w' : World) : Prop := (∃ v, Lib.parseIntB 64 l = .ok v ∧ e = .returned (.tuple #[.int .i64 v, .nilIface]) ∧ Below w.heap.size w w') ∨ (Lib.parseIntB 64 l = .range ∧ ∃ (n : Int) (te : TypeId) (pe : Value), e = .returned (.tuple #[.int .i64 n, .iface te pe]) ∧ Below w.heap.size w w')
theorem parse_any (x : ByteArray) (hs : x.size ≤ 20000) (h0 : x.data.toList ≠ []) (hd : ∀ c ∈ x.data.toList, digB c = true) (w : World) (hG : Gl w) :
    Calls Tryd.prog 25 #[.string x, .int .i64 10, .int .i64 64] w (ParP x.data.toList w) := by
  cases hq : Lib.parseIntB 64 x.data.toList with
  | «syntax» => exact absurd hq (int_digs _ h0 hd)
  | ok v =>
    refine (Tryd.strconv_ParseInt_10_at64_ok x (by omega) v hq w).mono ?_
    rintro e w' ⟨rfl, h⟩
    refine .inl ⟨v, hq, rfl, ?_⟩
    rcases h with rfl | ⟨t, rfl⟩
    · exact Below.refl _ _
    · exact Joins.below_bytesWorld _ _ _ _ (Nat.le_refl _)
  | range =>
    obtain ⟨ev, h1, h2⟩ := hG.e
    refine (Tryd.strconv_ParseInt_10_at64_range x (by omega) hq ev w h1 h2).mono ?_
    rintro e w' ⟨N, rfl, _, _, hb⟩
    exact .inr ⟨hq, _, _, _, rfl, hb⟩
set_option maxHeartbeats 8000000 in
set_option maxRecDepth 100000 in
theorem number_any (s : ByteArray) (hs : s.size ≤ 20000) (p : Nat) (hp : p < s.size) (hd0 : digB s[p] = true) (w : World) (hG : Gl w) :
    Calls Tryd.prog 18 #[.string s, .int .i64 (p : Int)] w (BelPost w (tokV p (numL (s.data.toList.drop p)))) := by
  obtain ⟨v, hv⟩ : ∃ v, tokV p (numL (s.data.toList.drop p)) = v := ⟨_, rfl⟩
  rw [hv]
  have HV := Veil.mk hv
  have HLN : Veil (s.data.toList.length = s.size) := ⟨Array.length_toList⟩
  have HG0 := Veil.mk hG
  have hdg0 := Veil.mk hd0
  clear hv hG hd0
  go_enter Tryd.func18, Tryd.ntmps18
  go_wp2
  go_loop [6] (fun i => ∃ e : Nat, p ≤ e ∧ e ≤ s.size ∧ i = .int .i64 (e : Int) ∧ Veil (Run digB s.data.toList p e) ∧ Veil (p < e ∨ e = p)) (fun i => s.size - (intOf i).toNat)
  case atStart => exact ⟨p, Nat.le_refl _, by omega, rfl, ⟨Run.start _ _ _⟩, ⟨.inr rfl⟩⟩
  case round =>
    obtain ⟨e, hpe, hes, rfl, hR, hE⟩ := hrel
    have he0 : (0 : Int) ≤ (e : Int) := by omega
    by_cases hlt : e < s.size
    · have hlt' : (e : Int) < (s.size : Int) := by omega
      obtain ⟨c, hc⟩ : ∃ c, c = s[e] := ⟨_, rfl⟩
      have hc2 := hc.symm
      have hat : Veil (s.data.toList[e]'(by rw [HLN.out]; exact hlt) = c) := ⟨by rw [hc]; rfl⟩
      clear hc
      cases hd : digB c with
      | true =>
        have HDI : Veil (∀ w, Calls Tryd.prog 17 #[.int .u8 (c.toNat : Int)] w fun e w' => e = .returned (.bool true) ∧ w = w') := ⟨fun w => by have h := isDigit_any c w; rwa [hd] at h⟩
        have hN : Veil (Run digB s.data.toList p (e + 1)) := ⟨hR.out.next hpe (by rw [HLN.out]; exact hlt) (by rw [hat.out]; exact hd)⟩
        clear hd
        go_wp2_with (first | (go_at_call 17; ((with_reducible refine (HDI.out _).mono ?_); rintro e w1 ⟨rfl, rfl⟩)))
        go_round
        case rel => exact ⟨e + 1, by omega, by omega, by go_num, hN, ⟨.inl (by omega)⟩⟩
        case measure => simp [intOf]; omega
      | false =>
        have HDI : Veil (∀ w, Calls Tryd.prog 17 #[.int .u8 (c.toNat : Int)] w fun e w' => e = .returned (.bool false) ∧ w = w') := ⟨fun w => by have h := isDigit_any c w; rwa [hd] at h⟩
        have hF := Veil.mk (hR.out.fin hpe (by rw [HLN.out]; exact hes) (fun h => by rw [hat.out]; exact hd))
        have hpe3 : p < e := by
          rcases hE.out with h | h
          · exact h
          · subst h
            rw [hc2, hd] at hdg0
            exact absurd hdg0.out Bool.false_ne_true
        clear hd hE
        go_upto_region 4 with (first | (go_at_call 17; ((with_reducible refine (HDI.out _).mono ?_); rintro e w1 ⟨rfl, rfl⟩)))
        have hhd : Veil ((s.data.toList.drop e).head? = some c) := ⟨by rw [List.drop_eq_getElem_cons (by rw [HLN.out]; exact hlt), hat.out]; rfl⟩
        obtain ⟨hF1, hF2⟩ := hF.out
        have heS : (e : Int) ≤ (s.size : Int) := by omega
        have hpe0 : (p : Int) ≤ (e : Int) := by omega
        obtain ⟨x, hx⟩ : ∃ x, x = s.extract p e := ⟨_, rfl⟩
        have hx2 := hx.symm
        have HX : Veil (x.data.toList = (s.data.toList.drop p).take (e - p)) := ⟨by rw [hx, Lib.extract_data]⟩
        have hxs0 : x.size = e - p := by rw [hx, ByteArray.size_extract]; omega
        have hxs : x.size + p = e := by omega
        clear hxs0
        have hxs1 : (x.size : Int) = (e : Int) - (p : Int) := by omega
        clear hx
        have HD : Veil ((s.data.toList.drop p).takeWhile digB = x.data.toList) := ⟨by rw [hF1, HX.out]⟩
        have hdg : ∀ c ∈ x.data.toList, digB c = true := fun c hc => by rw [← HD.out] at hc; exact List.all_eq_true.1 List.all_takeWhile c hc
        have hlenx : x.data.toList.length = e - p := by rw [← HD.out, hF2]
        have hnum0 : numL (s.data.toList.drop p) = (match Lib.parseIntB 64 x.data.toList with
            | .ok u => if 9007199254740991 < u ∨ (1 < e - p ∧ (s.data.toList.drop p).head? = some 48) ∨ ((s.data.toList.drop e).head?.any letB = true) then none else some ⟨3, x.data.toList, u, e - p⟩
            | _ => none) := by
          unfold numL
          rw [HD.out, hlenx, List.drop_drop, show p + (e - p) = e by omega]
          cases Lib.parseIntB 64 x.data.toList <;> rfl
        have hxs2 := Veil.mk hxs1
        clear hF1 hF2 hF hxs1 hdg0
        have l0 : Below w.heap.size w (w.alloc (.cells #[.int .i64 0, .string ⟨#[]⟩, .int .i64 0, .int .i64 0] 31)) := (Below.refl _ _).alloc (Nat.le_refl _) _
        have b0 : Box (w.alloc (.cells #[.int .i64 0, .string ⟨#[]⟩, .int .i64 0, .int .i64 0] 31)) w.heap.size 31 #[.int .i64 0, .string ⟨#[]⟩, .int .i64 0, .int .i64 0] := Box.new w _ _
        have HG := Veil.mk (HG0.out.on l0)
        have hne : x.data.toList ≠ [] := by intro h0; rw [h0] at hlenx; simp at hlenx; omega
        cases hq : Lib.parseIntB 64 x.data.toList with
        | «syntax» => exact absurd hq (int_digs _ hne hdg)
        | ok u =>
          rw [hq] at hnum0
          have hnum := Veil.mk hnum0
          have HPI : Veil (∀ w, Gl w → Calls Tryd.prog 25 #[.string x, .int .i64 10, .int .i64 64] w fun e w' => e = .returned (.tuple #[.int .i64 u, .nilIface]) ∧ Below w.heap.size w w') := ⟨fun w hg => (parse_any x (by omega) hne hdg w hg).mono (by
            rintro e9 w9 (⟨v9, h1, h2, h3⟩ | ⟨h1, _⟩)
            · rw [hq] at h1
              cases h1
              exact ⟨h2, h3⟩
            · rw [hq] at h1
              cases h1)⟩
          clear hdg hlenx hnum0 hq hne
          generalize w.alloc (.cells #[.int .i64 0, .string ⟨#[]⟩, .int .i64 0, .int .i64 0] 31) = W0 at l0 b0 HG ⊢
          go_upto_region 6 with (first | (go_at_call 25; ((with_reducible refine (HPI.out _ HG.out).mono ?_); rintro e9 w2 ⟨rfl, hb2⟩)))
          have HBB := Veil.mk (l0.trans (hb2.mono l0.size))
          have bT := b0.on hb2 b0.lt
          obtain ⟨g, hg⟩ : ∃ g, w.heap.size = g := ⟨_, rfl⟩
          rw [hg] at bT ⊢
          have t0 : w2.cell? ⟨g, 0, none⟩ = some (.int .i64 0) := bT.at_ 0
          have t1 : w2.cell? ⟨g, 1, none⟩ = some (.string ⟨#[]⟩) := bT.at_ 1
          have t2 : w2.cell? ⟨g, 2, none⟩ = some (.int .i64 0) := bT.at_ 2
          have t3 : w2.cell? ⟨g, 3, none⟩ = some (.int .i64 0) := bT.at_ 3
          have f0 := bT.free 0
          have f1 := bT.free 1
          have f2 := bT.free 2
          have f3 := bT.free 3
          have HBT := Veil.mk bT
          have HGG := Veil.mk hg
          clear l0 b0 hb2 bT hg
          by_cases h1 : 1 < e - p
          · have h1' : (1 : Int) < (x.size : Int) := by omega
            have hx0 : 0 < x.size := by omega
            have hx0' : (0 : Int) < (x.size : Int) := by omega
            obtain ⟨c0, hc0⟩ : ∃ c, x[0] = c := ⟨_, rfl⟩
            have hhead : Veil ((s.data.toList.drop p).head? = some c0) := ⟨by
              have h2 := get0 x hx0
              rw [hc0, HX.out] at h2
              rw [show (s.data.toList.drop p).head? = ((s.data.toList.drop p).take (e - p)).head? by rw [List.head?_take, if_neg (by omega)], h2]
              rfl⟩
            by_cases h48 : c0.toNat = 48
            · have h48' : ((c0.toNat : Int) == 48) = true := beq_iff_eq.2 (by omega)
              have HLD : Veil (1 < e - p ∧ (s.data.toList.drop p).head? = some 48) := ⟨h1, by rw [hhead.out]; congr 1; exact UInt8.toNat_inj.1 h48⟩
              clear h48
              go_upto_region 7 with (fail)
              by_cases hv9 : (9007199254740991 : Int) < u
              · have HVN : Veil (v = tokV p none) := ⟨by rw [← HV.out, hnum.out, if_pos (.inl hv9)]⟩
                go_wp2
                obtain ⟨hz1, hz2⟩ := fill4 HBT.out (.int .i64 0) (.string ⟨#[]⟩) (.int .i64 0) (.int .i64 0) HBB.out (by have := HGG.out; omega)
                generalize (((w2.setCell ⟨g, 0, none⟩ (.int .i64 0)).setCell ⟨g, 1, none⟩ (.string ⟨#[]⟩)).setCell ⟨g, 2, none⟩ (.int .i64 0)).setCell ⟨g, 3, none⟩ (.int .i64 0) = W9 at hz1 hz2 ⊢
                have q0 : W9.cell? ⟨g, 0, none⟩ = some (.int .i64 0) := hz1.at_ 0
                have q1 : W9.cell? ⟨g, 1, none⟩ = some (.string ⟨#[]⟩) := hz1.at_ 1
                have q2 : W9.cell? ⟨g, 2, none⟩ = some (.int .i64 0) := hz1.at_ 2
                have q3 : W9.cell? ⟨g, 3, none⟩ = some (.int .i64 0) := hz1.at_ 3
                rw [HVN.out]
                exact bodyPost_ret (v := .tuple #[.agg #[.int .i64 0, .string ⟨#[]⟩, .int .i64 0, .int .i64 0], .int .i64 (p : Int)]) (by simp [results, Tryd.results18, go_sem, q0, q1, q2, q3]) rfl ⟨rfl, hz2⟩
              · have HVN : Veil (v = tokV p none) := ⟨by rw [← HV.out, hnum.out, if_pos (.inr (.inl HLD.out))]⟩
                go_wp2
                obtain ⟨hz1, hz2⟩ := fill4 HBT.out (.int .i64 0) (.string ⟨#[]⟩) (.int .i64 0) (.int .i64 0) HBB.out (by have := HGG.out; omega)
                generalize (((w2.setCell ⟨g, 0, none⟩ (.int .i64 0)).setCell ⟨g, 1, none⟩ (.string ⟨#[]⟩)).setCell ⟨g, 2, none⟩ (.int .i64 0)).setCell ⟨g, 3, none⟩ (.int .i64 0) = W9 at hz1 hz2 ⊢
                have q0 : W9.cell? ⟨g, 0, none⟩ = some (.int .i64 0) := hz1.at_ 0
                have q1 : W9.cell? ⟨g, 1, none⟩ = some (.string ⟨#[]⟩) := hz1.at_ 1
                have q2 : W9.cell? ⟨g, 2, none⟩ = some (.int .i64 0) := hz1.at_ 2
                have q3 : W9.cell? ⟨g, 3, none⟩ = some (.int .i64 0) := hz1.at_ 3
                rw [HVN.out]
                exact bodyPost_ret (v := .tuple #[.agg #[.int .i64 0, .string ⟨#[]⟩, .int .i64 0, .int .i64 0], .int .i64 (p : Int)]) (by simp [results, Tryd.results18, go_sem, q0, q1, q2, q3]) rfl ⟨rfl, hz2⟩
            · have h48' : ((c0.toNat : Int) == 48) = false := beq_eq_false_iff_ne.2 (by omega)
              have HLD : Veil (¬ (1 < e - p ∧ (s.data.toList.drop p).head? = some 48)) := ⟨fun h => by
                have h3 := h.2
                rw [hhead.out] at h3
                injection h3 with h3
                exact h48 (by rw [h3]; rfl)⟩
              clear h48
              go_upto_region 7 with (fail)
              by_cases hv9 : (9007199254740991 : Int) < u
              · have HVN : Veil (v = tokV p none) := ⟨by rw [← HV.out, hnum.out, if_pos (.inl hv9)]⟩
                go_wp2
                obtain ⟨hz1, hz2⟩ := fill4 HBT.out (.int .i64 0) (.string ⟨#[]⟩) (.int .i64 0) (.int .i64 0) HBB.out (by have := HGG.out; omega)
                generalize (((w2.setCell ⟨g, 0, none⟩ (.int .i64 0)).setCell ⟨g, 1, none⟩ (.string ⟨#[]⟩)).setCell ⟨g, 2, none⟩ (.int .i64 0)).setCell ⟨g, 3, none⟩ (.int .i64 0) = W9 at hz1 hz2 ⊢
                have q0 : W9.cell? ⟨g, 0, none⟩ = some (.int .i64 0) := hz1.at_ 0
                have q1 : W9.cell? ⟨g, 1, none⟩ = some (.string ⟨#[]⟩) := hz1.at_ 1
                have q2 : W9.cell? ⟨g, 2, none⟩ = some (.int .i64 0) := hz1.at_ 2
                have q3 : W9.cell? ⟨g, 3, none⟩ = some (.int .i64 0) := hz1.at_ 3
                rw [HVN.out]
                exact bodyPost_ret (v := .tuple #[.agg #[.int .i64 0, .string ⟨#[]⟩, .int .i64 0, .int .i64 0], .int .i64 (p : Int)]) (by simp [results, Tryd.results18, go_sem, q0, q1, q2, q3]) rfl ⟨rfl, hz2⟩
              · cases hl : letB c with
                | true =>
                  have HLE : Veil (∀ w, Calls Tryd.prog 15 #[.int .u8 (c.toNat : Int)] w fun e w' => e = .returned (.bool true) ∧ w = w') := ⟨fun w => by have h := isLetter_any c w; rwa [hl] at h⟩
                  have HVN : Veil (v = tokV p none) := ⟨by rw [← HV.out, hnum.out, if_pos (.inr (.inr (by rw [hhd.out]; exact hl)))]⟩
                  clear hl
                  go_wp2_with (first | (go_at_call 15; ((with_reducible refine (HLE.out _).mono ?_); rintro e w1 ⟨rfl, rfl⟩)))
                  obtain ⟨hz1, hz2⟩ := fill4 HBT.out (.int .i64 0) (.string ⟨#[]⟩) (.int .i64 0) (.int .i64 0) HBB.out (by have := HGG.out; omega)
                  generalize (((w2.setCell ⟨g, 0, none⟩ (.int .i64 0)).setCell ⟨g, 1, none⟩ (.string ⟨#[]⟩)).setCell ⟨g, 2, none⟩ (.int .i64 0)).setCell ⟨g, 3, none⟩ (.int .i64 0) = W9 at hz1 hz2 ⊢
                  have q0 : W9.cell? ⟨g, 0, none⟩ = some (.int .i64 0) := hz1.at_ 0
                  have q1 : W9.cell? ⟨g, 1, none⟩ = some (.string ⟨#[]⟩) := hz1.at_ 1
                  have q2 : W9.cell? ⟨g, 2, none⟩ = some (.int .i64 0) := hz1.at_ 2
                  have q3 : W9.cell? ⟨g, 3, none⟩ = some (.int .i64 0) := hz1.at_ 3
                  rw [HVN.out]
                  exact bodyPost_ret (v := .tuple #[.agg #[.int .i64 0, .string ⟨#[]⟩, .int .i64 0, .int .i64 0], .int .i64 (p : Int)]) (by simp [results, Tryd.results18, go_sem, q0, q1, q2, q3]) rfl ⟨rfl, hz2⟩
                | false =>
                  have HLE : Veil (∀ w, Calls Tryd.prog 15 #[.int .u8 (c.toNat : Int)] w fun e w' => e = .returned (.bool false) ∧ w = w') := ⟨fun w => by have h := isLetter_any c w; rwa [hl] at h⟩
                  have HVS : Veil (v = .tuple #[.agg #[.int .i64 3, .string x, .int .i64 (p : Int), .int .i64 u], .int .i64 (e : Int)]) := ⟨by
                    rw [← HV.out, hnum.out, if_neg (by rintro (h | h | h); exact hv9 h; exact HLD.out h; rw [hhd.out] at h; exact absurd (hl.symm.trans h) Bool.false_ne_true)]
                    exact tokV_some (by_inj rfl) (by omega)⟩
                  clear hl
                  go_wp2_with (first | (go_at_call 15; ((with_reducible refine (HLE.out _).mono ?_); rintro e w1 ⟨rfl, rfl⟩)))
                  obtain ⟨hz1, hz2⟩ := fill4 HBT.out (.int .i64 3) (.string x) (.int .i64 (p : Int)) (.int .i64 u) HBB.out (by have := HGG.out; omega)
                  generalize (((w2.setCell ⟨g, 0, none⟩ (.int .i64 3)).setCell ⟨g, 1, none⟩ (.string x)).setCell ⟨g, 2, none⟩ (.int .i64 (p : Int))).setCell ⟨g, 3, none⟩ (.int .i64 u) = W9 at hz1 hz2 ⊢
                  have q0 : W9.cell? ⟨g, 0, none⟩ = some (.int .i64 3) := hz1.at_ 0
                  have q1 : W9.cell? ⟨g, 1, none⟩ = some (.string x) := hz1.at_ 1
                  have q2 : W9.cell? ⟨g, 2, none⟩ = some (.int .i64 (p : Int)) := hz1.at_ 2
                  have q3 : W9.cell? ⟨g, 3, none⟩ = some (.int .i64 u) := hz1.at_ 3
                  rw [HVS.out]
                  exact bodyPost_ret (v := .tuple #[.agg #[.int .i64 3, .string x, .int .i64 (p : Int), .int .i64 u], .int .i64 (e : Int)]) (by simp [results, Tryd.results18, go_sem, q0, q1, q2, q3]) rfl ⟨rfl, hz2⟩
          · have h1' : ¬ (1 : Int) < (x.size : Int) := by omega
            have HLD : Veil (¬ (1 < e - p ∧ (s.data.toList.drop p).head? = some 48)) := ⟨fun h => h1 h.1⟩
            go_upto_region 7 with (fail)
            by_cases hv9 : (9007199254740991 : Int) < u
            · have HVN : Veil (v = tokV p none) := ⟨by rw [← HV.out, hnum.out, if_pos (.inl hv9)]⟩
              go_wp2
              obtain ⟨hz1, hz2⟩ := fill4 HBT.out (.int .i64 0) (.string ⟨#[]⟩) (.int .i64 0) (.int .i64 0) HBB.out (by have := HGG.out; omega)
              generalize (((w2.setCell ⟨g, 0, none⟩ (.int .i64 0)).setCell ⟨g, 1, none⟩ (.string ⟨#[]⟩)).setCell ⟨g, 2, none⟩ (.int .i64 0)).setCell ⟨g, 3, none⟩ (.int .i64 0) = W9 at hz1 hz2 ⊢
              have q0 : W9.cell? ⟨g, 0, none⟩ = some (.int .i64 0) := hz1.at_ 0
              have q1 : W9.cell? ⟨g, 1, none⟩ = some (.string ⟨#[]⟩) := hz1.at_ 1
              have q2 : W9.cell? ⟨g, 2, none⟩ = some (.int .i64 0) := hz1.at_ 2
              have q3 : W9.cell? ⟨g, 3, none⟩ = some (.int .i64 0) := hz1.at_ 3
              rw [HVN.out]
              exact bodyPost_ret (v := .tuple #[.agg #[.int .i64 0, .string ⟨#[]⟩, .int .i64 0, .int .i64 0], .int .i64 (p : Int)]) (by simp [results, Tryd.results18, go_sem, q0, q1, q2, q3]) rfl ⟨rfl, hz2⟩
            · cases hl : letB c with
              | true =>
                have HLE : Veil (∀ w, Calls Tryd.prog 15 #[.int .u8 (c.toNat : Int)] w fun e w' => e = .returned (.bool true) ∧ w = w') := ⟨fun w => by have h := isLetter_any c w; rwa [hl] at h⟩
                have HVN : Veil (v = tokV p none) := ⟨by rw [← HV.out, hnum.out, if_pos (.inr (.inr (by rw [hhd.out]; exact hl)))]⟩
                clear hl
                go_wp2_with (first | (go_at_call 15; ((with_reducible refine (HLE.out _).mono ?_); rintro e w1 ⟨rfl, rfl⟩)))
                obtain ⟨hz1, hz2⟩ := fill4 HBT.out (.int .i64 0) (.string ⟨#[]⟩) (.int .i64 0) (.int .i64 0) HBB.out (by have := HGG.out; omega)
                generalize (((w2.setCell ⟨g, 0, none⟩ (.int .i64 0)).setCell ⟨g, 1, none⟩ (.string ⟨#[]⟩)).setCell ⟨g, 2, none⟩ (.int .i64 0)).setCell ⟨g, 3, none⟩ (.int .i64 0) = W9 at hz1 hz2 ⊢
                have q0 : W9.cell? ⟨g, 0, none⟩ = some (.int .i64 0) := hz1.at_ 0
                have q1 : W9.cell? ⟨g, 1, none⟩ = some (.string ⟨#[]⟩) := hz1.at_ 1
                have q2 : W9.cell? ⟨g, 2, none⟩ = some (.int .i64 0) := hz1.at_ 2
                have q3 : W9.cell? ⟨g, 3, none⟩ = some (.int .i64 0) := hz1.at_ 3
                rw [HVN.out]
                exact bodyPost_ret (v := .tuple #[.agg #[.int .i64 0, .string ⟨#[]⟩, .int .i64 0, .int .i64 0], .int .i64 (p : Int)]) (by simp [results, Tryd.results18, go_sem, q0, q1, q2, q3]) rfl ⟨rfl, hz2⟩
              | false =>
                have HLE : Veil (∀ w, Calls Tryd.prog 15 #[.int .u8 (c.toNat : Int)] w fun e w' => e = .returned (.bool false) ∧ w = w') := ⟨fun w => by have h := isLetter_any c w; rwa [hl] at h⟩
                have HVS : Veil (v = .tuple #[.agg #[.int .i64 3, .string x, .int .i64 (p : Int), .int .i64 u], .int .i64 (e : Int)]) := ⟨by
                  rw [← HV.out, hnum.out, if_neg (by rintro (h | h | h); exact hv9 h; exact HLD.out h; rw [hhd.out] at h; exact absurd (hl.symm.trans h) Bool.false_ne_true)]
                  exact tokV_some (by_inj rfl) (by omega)⟩
                clear hl
                go_wp2_with (first | (go_at_call 15; ((with_reducible refine (HLE.out _).mono ?_); rintro e w1 ⟨rfl, rfl⟩)))
                obtain ⟨hz1, hz2⟩ := fill4 HBT.out (.int .i64 3) (.string x) (.int .i64 (p : Int)) (.int .i64 u) HBB.out (by have := HGG.out; omega)
                generalize (((w2.setCell ⟨g, 0, none⟩ (.int .i64 3)).setCell ⟨g, 1, none⟩ (.string x)).setCell ⟨g, 2, none⟩ (.int .i64 (p : Int))).setCell ⟨g, 3, none⟩ (.int .i64 u) = W9 at hz1 hz2 ⊢
                have q0 : W9.cell? ⟨g, 0, none⟩ = some (.int .i64 3) := hz1.at_ 0
                have q1 : W9.cell? ⟨g, 1, none⟩ = some (.string x) := hz1.at_ 1
                have q2 : W9.cell? ⟨g, 2, none⟩ = some (.int .i64 (p : Int)) := hz1.at_ 2
                have q3 : W9.cell? ⟨g, 3, none⟩ = some (.int .i64 u) := hz1.at_ 3
                rw [HVS.out]
                exact bodyPost_ret (v := .tuple #[.agg #[.int .i64 3, .string x, .int .i64 (p : Int), .int .i64 u], .int .i64 (e : Int)]) (by simp [results, Tryd.results18, go_sem, q0, q1, q2, q3]) rfl ⟨rfl, hz2⟩
        | range =>
          rw [hq] at hnum0
          have hnum := Veil.mk hnum0
          have HVN : Veil (v = tokV p none) := ⟨by rw [← HV.out, hnum.out]⟩
          have HPI : Veil (∀ w, Gl w → Calls Tryd.prog 25 #[.string x, .int .i64 10, .int .i64 64] w fun e w' => ∃ (n : Int) (te : TypeId) (pe : Value), e = .returned (.tuple #[.int .i64 n, .iface te pe]) ∧ Below w.heap.size w w') := ⟨fun w hg => (parse_any x (by omega) hne hdg w hg).mono (by
            rintro e9 w9 (⟨v9, h1, _⟩ | ⟨_, h1⟩)
            · rw [hq] at h1
              cases h1
            · exact h1)⟩
          clear hdg hlenx hnum0 hq hne
          generalize w.alloc (.cells #[.int .i64 0, .string ⟨#[]⟩, .int .i64 0, .int .i64 0] 31) = W0 at l0 b0 HG ⊢
          go_upto_region 6 with (first | (go_at_call 25; ((with_reducible refine (HPI.out _ HG.out).mono ?_); rintro e9 w2 ⟨n9, te9, pe9, rfl, hb2⟩)))
          have HBB := Veil.mk (l0.trans (hb2.mono l0.size))
          have bT := b0.on hb2 b0.lt
          obtain ⟨g, hg⟩ : ∃ g, w.heap.size = g := ⟨_, rfl⟩
          rw [hg] at bT ⊢
          have t0 : w2.cell? ⟨g, 0, none⟩ = some (.int .i64 0) := bT.at_ 0
          have t1 : w2.cell? ⟨g, 1, none⟩ = some (.string ⟨#[]⟩) := bT.at_ 1
          have t2 : w2.cell? ⟨g, 2, none⟩ = some (.int .i64 0) := bT.at_ 2
          have t3 : w2.cell? ⟨g, 3, none⟩ = some (.int .i64 0) := bT.at_ 3
          have f0 := bT.free 0
          have f1 := bT.free 1
          have f2 := bT.free 2
          have f3 := bT.free 3
          have HBT := Veil.mk bT
          have HGG := Veil.mk hg
          clear l0 b0 hb2 bT hg
          by_cases h1 : 1 < e - p
          · have h1' : (1 : Int) < (x.size : Int) := by omega
            have hx0 : 0 < x.size := by omega
            have hx0' : (0 : Int) < (x.size : Int) := by omega
            obtain ⟨c0, hc0⟩ : ∃ c, x[0] = c := ⟨_, rfl⟩
            have hhead : Veil ((s.data.toList.drop p).head? = some c0) := ⟨by
              have h2 := get0 x hx0
              rw [hc0, HX.out] at h2
              rw [show (s.data.toList.drop p).head? = ((s.data.toList.drop p).take (e - p)).head? by rw [List.head?_take, if_neg (by omega)], h2]
              rfl⟩
            by_cases h48 : c0.toNat = 48
            · have h48' : ((c0.toNat : Int) == 48) = true := beq_iff_eq.2 (by omega)
              have HLD : Veil (1 < e - p ∧ (s.data.toList.drop p).head? = some 48) := ⟨h1, by rw [hhead.out]; congr 1; exact UInt8.toNat_inj.1 h48⟩
              clear h48
              go_upto_region 7 with (fail)
              go_wp2
              obtain ⟨hz1, hz2⟩ := fill4 HBT.out (.int .i64 0) (.string ⟨#[]⟩) (.int .i64 0) (.int .i64 0) HBB.out (by have := HGG.out; omega)
              generalize (((w2.setCell ⟨g, 0, none⟩ (.int .i64 0)).setCell ⟨g, 1, none⟩ (.string ⟨#[]⟩)).setCell ⟨g, 2, none⟩ (.int .i64 0)).setCell ⟨g, 3, none⟩ (.int .i64 0) = W9 at hz1 hz2 ⊢
              have q0 : W9.cell? ⟨g, 0, none⟩ = some (.int .i64 0) := hz1.at_ 0
              have q1 : W9.cell? ⟨g, 1, none⟩ = some (.string ⟨#[]⟩) := hz1.at_ 1
              have q2 : W9.cell? ⟨g, 2, none⟩ = some (.int .i64 0) := hz1.at_ 2
              have q3 : W9.cell? ⟨g, 3, none⟩ = some (.int .i64 0) := hz1.at_ 3
              rw [HVN.out]
              exact bodyPost_ret (v := .tuple #[.agg #[.int .i64 0, .string ⟨#[]⟩, .int .i64 0, .int .i64 0], .int .i64 (p : Int)]) (by simp [results, Tryd.results18, go_sem, q0, q1, q2, q3]) rfl ⟨rfl, hz2⟩
            · have h48' : ((c0.toNat : Int) == 48) = false := beq_eq_false_iff_ne.2 (by omega)
              have HLD : Veil (¬ (1 < e - p ∧ (s.data.toList.drop p).head? = some 48)) := ⟨fun h => by
                have h3 := h.2
                rw [hhead.out] at h3
                injection h3 with h3
                exact h48 (by rw [h3]; rfl)⟩
              clear h48
              go_upto_region 7 with (fail)
              go_wp2
              obtain ⟨hz1, hz2⟩ := fill4 HBT.out (.int .i64 0) (.string ⟨#[]⟩) (.int .i64 0) (.int .i64 0) HBB.out (by have := HGG.out; omega)
              generalize (((w2.setCell ⟨g, 0, none⟩ (.int .i64 0)).setCell ⟨g, 1, none⟩ (.string ⟨#[]⟩)).setCell ⟨g, 2, none⟩ (.int .i64 0)).setCell ⟨g, 3, none⟩ (.int .i64 0) = W9 at hz1 hz2 ⊢
              have q0 : W9.cell? ⟨g, 0, none⟩ = some (.int .i64 0) := hz1.at_ 0
              have q1 : W9.cell? ⟨g, 1, none⟩ = some (.string ⟨#[]⟩) := hz1.at_ 1
              have q2 : W9.cell? ⟨g, 2, none⟩ = some (.int .i64 0) := hz1.at_ 2
              have q3 : W9.cell? ⟨g, 3, none⟩ = some (.int .i64 0) := hz1.at_ 3
              rw [HVN.out]
              exact bodyPost_ret (v := .tuple #[.agg #[.int .i64 0, .string ⟨#[]⟩, .int .i64 0, .int .i64 0], .int .i64 (p : Int)]) (by simp [results, Tryd.results18, go_sem, q0, q1, q2, q3]) rfl ⟨rfl, hz2⟩
          · have h1' : ¬ (1 : Int) < (x.size : Int) := by omega
            have HLD : Veil (¬ (1 < e - p ∧ (s.data.toList.drop p).head? = some 48)) := ⟨fun h => h1 h.1⟩
            go_upto_region 7 with (fail)
            go_wp2
            obtain ⟨hz1, hz2⟩ := fill4 HBT.out (.int .i64 0) (.string ⟨#[]⟩) (.int .i64 0) (.int .i64 0) HBB.out (by have := HGG.out; omega)
            generalize (((w2.setCell ⟨g, 0, none⟩ (.int .i64 0)).setCell ⟨g, 1, none⟩ (.string ⟨#[]⟩)).setCell ⟨g, 2, none⟩ (.int .i64 0)).setCell ⟨g, 3, none⟩ (.int .i64 0) = W9 at hz1 hz2 ⊢
            have q0 : W9.cell? ⟨g, 0, none⟩ = some (.int .i64 0) := hz1.at_ 0
            have q1 : W9.cell? ⟨g, 1, none⟩ = some (.string ⟨#[]⟩) := hz1.at_ 1
            have q2 : W9.cell? ⟨g, 2, none⟩ = some (.int .i64 0) := hz1.at_ 2
            have q3 : W9.cell? ⟨g, 3, none⟩ = some (.int .i64 0) := hz1.at_ 3
            rw [HVN.out]
            exact bodyPost_ret (v := .tuple #[.agg #[.int .i64 0, .string ⟨#[]⟩, .int .i64 0, .int .i64 0], .int .i64 (p : Int)]) (by simp [results, Tryd.results18, go_sem, q0, q1, q2, q3]) rfl ⟨rfl, hz2⟩
    · have hlt' : ¬ (e : Int) < (s.size : Int) := by omega
      have hF := Veil.mk (hR.out.fin hpe (by rw [HLN.out]; exact hes) (fun h => absurd h (by rw [HLN.out]; exact hlt)))
      have hpe3 : p < e := by omega
      clear hE
      go_upto_region 4 with (fail)
      have hhd : Veil ((s.data.toList.drop e).head? = none) := ⟨by rw [List.drop_eq_nil_of_le (by rw [HLN.out]; omega)]; rfl⟩
      obtain ⟨hF1, hF2⟩ := hF.out
      have heS : (e : Int) ≤ (s.size : Int) := by omega
      have hpe0 : (p : Int) ≤ (e : Int) := by omega
      obtain ⟨x, hx⟩ : ∃ x, x = s.extract p e := ⟨_, rfl⟩
      have hx2 := hx.symm
      have HX : Veil (x.data.toList = (s.data.toList.drop p).take (e - p)) := ⟨by rw [hx, Lib.extract_data]⟩
      have hxs0 : x.size = e - p := by rw [hx, ByteArray.size_extract]; omega
      have hxs : x.size + p = e := by omega
      clear hxs0
      have hxs1 : (x.size : Int) = (e : Int) - (p : Int) := by omega
      clear hx
      have HD : Veil ((s.data.toList.drop p).takeWhile digB = x.data.toList) := ⟨by rw [hF1, HX.out]⟩
      have hdg : ∀ c ∈ x.data.toList, digB c = true := fun c hc => by rw [← HD.out] at hc; exact List.all_eq_true.1 List.all_takeWhile c hc
      have hlenx : x.data.toList.length = e - p := by rw [← HD.out, hF2]
      have hnum0 : numL (s.data.toList.drop p) = (match Lib.parseIntB 64 x.data.toList with
          | .ok u => if 9007199254740991 < u ∨ (1 < e - p ∧ (s.data.toList.drop p).head? = some 48) ∨ ((s.data.toList.drop e).head?.any letB = true) then none else some ⟨3, x.data.toList, u, e - p⟩
          | _ => none) := by
        unfold numL
        rw [HD.out, hlenx, List.drop_drop, show p + (e - p) = e by omega]
        cases Lib.parseIntB 64 x.data.toList <;> rfl
      have hxs2 := Veil.mk hxs1
      clear hF1 hF2 hF hxs1 hdg0
      have l0 : Below w.heap.size w (w.alloc (.cells #[.int .i64 0, .string ⟨#[]⟩, .int .i64 0, .int .i64 0] 31)) := (Below.refl _ _).alloc (Nat.le_refl _) _
      have b0 : Box (w.alloc (.cells #[.int .i64 0, .string ⟨#[]⟩, .int .i64 0, .int .i64 0] 31)) w.heap.size 31 #[.int .i64 0, .string ⟨#[]⟩, .int .i64 0, .int .i64 0] := Box.new w _ _
      have HG := Veil.mk (HG0.out.on l0)
      have hne : x.data.toList ≠ [] := by intro h0; rw [h0] at hlenx; simp at hlenx; omega
      cases hq : Lib.parseIntB 64 x.data.toList with
      | «syntax» => exact absurd hq (int_digs _ hne hdg)
      | ok u =>
        rw [hq] at hnum0
        have hnum := Veil.mk hnum0
        have HPI : Veil (∀ w, Gl w → Calls Tryd.prog 25 #[.string x, .int .i64 10, .int .i64 64] w fun e w' => e = .returned (.tuple #[.int .i64 u, .nilIface]) ∧ Below w.heap.size w w') := ⟨fun w hg => (parse_any x (by omega) hne hdg w hg).mono (by
          rintro e9 w9 (⟨v9, h1, h2, h3⟩ | ⟨h1, _⟩)
          · rw [hq] at h1
            cases h1
            exact ⟨h2, h3⟩
          · rw [hq] at h1
            cases h1)⟩
        clear hdg hlenx hnum0 hq hne
        generalize w.alloc (.cells #[.int .i64 0, .string ⟨#[]⟩, .int .i64 0, .int .i64 0] 31) = W0 at l0 b0 HG ⊢
        go_upto_region 6 with (first | (go_at_call 25; ((with_reducible refine (HPI.out _ HG.out).mono ?_); rintro e9 w2 ⟨rfl, hb2⟩)))
        have HBB := Veil.mk (l0.trans (hb2.mono l0.size))
        have bT := b0.on hb2 b0.lt
        obtain ⟨g, hg⟩ : ∃ g, w.heap.size = g := ⟨_, rfl⟩
        rw [hg] at bT ⊢
        have t0 : w2.cell? ⟨g, 0, none⟩ = some (.int .i64 0) := bT.at_ 0
        have t1 : w2.cell? ⟨g, 1, none⟩ = some (.string ⟨#[]⟩) := bT.at_ 1
        have t2 : w2.cell? ⟨g, 2, none⟩ = some (.int .i64 0) := bT.at_ 2
        have t3 : w2.cell? ⟨g, 3, none⟩ = some (.int .i64 0) := bT.at_ 3
        have f0 := bT.free 0
        have f1 := bT.free 1
        have f2 := bT.free 2
        have f3 := bT.free 3
        have HBT := Veil.mk bT
        have HGG := Veil.mk hg
        clear l0 b0 hb2 bT hg
        by_cases h1 : 1 < e - p
        · have h1' : (1 : Int) < (x.size : Int) := by omega
          have hx0 : 0 < x.size := by omega
          have hx0' : (0 : Int) < (x.size : Int) := by omega
          obtain ⟨c0, hc0⟩ : ∃ c, x[0] = c := ⟨_, rfl⟩
          have hhead : Veil ((s.data.toList.drop p).head? = some c0) := ⟨by
            have h2 := get0 x hx0
            rw [hc0, HX.out] at h2
            rw [show (s.data.toList.drop p).head? = ((s.data.toList.drop p).take (e - p)).head? by rw [List.head?_take, if_neg (by omega)], h2]
            rfl⟩
          by_cases h48 : c0.toNat = 48
          · have h48' : ((c0.toNat : Int) == 48) = true := beq_iff_eq.2 (by omega)
            have HLD : Veil (1 < e - p ∧ (s.data.toList.drop p).head? = some 48) := ⟨h1, by rw [hhead.out]; congr 1; exact UInt8.toNat_inj.1 h48⟩
            clear h48
            go_upto_region 7 with (fail)
            by_cases hv9 : (9007199254740991 : Int) < u
            · have HVN : Veil (v = tokV p none) := ⟨by rw [← HV.out, hnum.out, if_pos (.inl hv9)]⟩
              go_wp2
              obtain ⟨hz1, hz2⟩ := fill4 HBT.out (.int .i64 0) (.string ⟨#[]⟩) (.int .i64 0) (.int .i64 0) HBB.out (by have := HGG.out; omega)
              generalize (((w2.setCell ⟨g, 0, none⟩ (.int .i64 0)).setCell ⟨g, 1, none⟩ (.string ⟨#[]⟩)).setCell ⟨g, 2, none⟩ (.int .i64 0)).setCell ⟨g, 3, none⟩ (.int .i64 0) = W9 at hz1 hz2 ⊢
              have q0 : W9.cell? ⟨g, 0, none⟩ = some (.int .i64 0) := hz1.at_ 0
              have q1 : W9.cell? ⟨g, 1, none⟩ = some (.string ⟨#[]⟩) := hz1.at_ 1
              have q2 : W9.cell? ⟨g, 2, none⟩ = some (.int .i64 0) := hz1.at_ 2
              have q3 : W9.cell? ⟨g, 3, none⟩ = some (.int .i64 0) := hz1.at_ 3
              rw [HVN.out]
              exact bodyPost_ret (v := .tuple #[.agg #[.int .i64 0, .string ⟨#[]⟩, .int .i64 0, .int .i64 0], .int .i64 (p : Int)]) (by simp [results, Tryd.results18, go_sem, q0, q1, q2, q3]) rfl ⟨rfl, hz2⟩
            · have HVN : Veil (v = tokV p none) := ⟨by rw [← HV.out, hnum.out, if_pos (.inr (.inl HLD.out))]⟩
              go_wp2
              obtain ⟨hz1, hz2⟩ := fill4 HBT.out (.int .i64 0) (.string ⟨#[]⟩) (.int .i64 0) (.int .i64 0) HBB.out (by have := HGG.out; omega)
              generalize (((w2.setCell ⟨g, 0, none⟩ (.int .i64 0)).setCell ⟨g, 1, none⟩ (.string ⟨#[]⟩)).setCell ⟨g, 2, none⟩ (.int .i64 0)).setCell ⟨g, 3, none⟩ (.int .i64 0) = W9 at hz1 hz2 ⊢
              have q0 : W9.cell? ⟨g, 0, none⟩ = some (.int .i64 0) := hz1.at_ 0
              have q1 : W9.cell? ⟨g, 1, none⟩ = some (.string ⟨#[]⟩) := hz1.at_ 1
              have q2 : W9.cell? ⟨g, 2, none⟩ = some (.int .i64 0) := hz1.at_ 2
              have q3 : W9.cell? ⟨g, 3, none⟩ = some (.int .i64 0) := hz1.at_ 3
              rw [HVN.out]
              exact bodyPost_ret (v := .tuple #[.agg #[.int .i64 0, .string ⟨#[]⟩, .int .i64 0, .int .i64 0], .int .i64 (p : Int)]) (by simp [results, Tryd.results18, go_sem, q0, q1, q2, q3]) rfl ⟨rfl, hz2⟩
          · have h48' : ((c0.toNat : Int) == 48) = false := beq_eq_false_iff_ne.2 (by omega)
            have HLD : Veil (¬ (1 < e - p ∧ (s.data.toList.drop p).head? = some 48)) := ⟨fun h => by
              have h3 := h.2
              rw [hhead.out] at h3
              injection h3 with h3
              exact h48 (by rw [h3]; rfl)⟩
            clear h48
            go_upto_region 7 with (fail)
            by_cases hv9 : (9007199254740991 : Int) < u
            · have HVN : Veil (v = tokV p none) := ⟨by rw [← HV.out, hnum.out, if_pos (.inl hv9)]⟩
              go_wp2
              obtain ⟨hz1, hz2⟩ := fill4 HBT.out (.int .i64 0) (.string ⟨#[]⟩) (.int .i64 0) (.int .i64 0) HBB.out (by have := HGG.out; omega)
              generalize (((w2.setCell ⟨g, 0, none⟩ (.int .i64 0)).setCell ⟨g, 1, none⟩ (.string ⟨#[]⟩)).setCell ⟨g, 2, none⟩ (.int .i64 0)).setCell ⟨g, 3, none⟩ (.int .i64 0) = W9 at hz1 hz2 ⊢
              have q0 : W9.cell? ⟨g, 0, none⟩ = some (.int .i64 0) := hz1.at_ 0
              have q1 : W9.cell? ⟨g, 1, none⟩ = some (.string ⟨#[]⟩) := hz1.at_ 1
              have q2 : W9.cell? ⟨g, 2, none⟩ = some (.int .i64 0) := hz1.at_ 2
              have q3 : W9.cell? ⟨g, 3, none⟩ = some (.int .i64 0) := hz1.at_ 3
              rw [HVN.out]
              exact bodyPost_ret (v := .tuple #[.agg #[.int .i64 0, .string ⟨#[]⟩, .int .i64 0, .int .i64 0], .int .i64 (p : Int)]) (by simp [results, Tryd.results18, go_sem, q0, q1, q2, q3]) rfl ⟨rfl, hz2⟩
            · have HVS : Veil (v = .tuple #[.agg #[.int .i64 3, .string x, .int .i64 (p : Int), .int .i64 u], .int .i64 (e : Int)]) := ⟨by
                rw [← HV.out, hnum.out, if_neg (by rintro (h | h | h); exact hv9 h; exact HLD.out h; rw [hhd.out] at h; cases h)]
                exact tokV_some (by_inj rfl) (by omega)⟩
              go_wp2
              obtain ⟨hz1, hz2⟩ := fill4 HBT.out (.int .i64 3) (.string x) (.int .i64 (p : Int)) (.int .i64 u) HBB.out (by have := HGG.out; omega)
              generalize (((w2.setCell ⟨g, 0, none⟩ (.int .i64 3)).setCell ⟨g, 1, none⟩ (.string x)).setCell ⟨g, 2, none⟩ (.int .i64 (p : Int))).setCell ⟨g, 3, none⟩ (.int .i64 u) = W9 at hz1 hz2 ⊢
              have q0 : W9.cell? ⟨g, 0, none⟩ = some (.int .i64 3) := hz1.at_ 0
              have q1 : W9.cell? ⟨g, 1, none⟩ = some (.string x) := hz1.at_ 1
              have q2 : W9.cell? ⟨g, 2, none⟩ = some (.int .i64 (p : Int)) := hz1.at_ 2
              have q3 : W9.cell? ⟨g, 3, none⟩ = some (.int .i64 u) := hz1.at_ 3
              rw [HVS.out]
              exact bodyPost_ret (v := .tuple #[.agg #[.int .i64 3, .string x, .int .i64 (p : Int), .int .i64 u], .int .i64 (e : Int)]) (by simp [results, Tryd.results18, go_sem, q0, q1, q2, q3]) rfl ⟨rfl, hz2⟩
        · have h1' : ¬ (1 : Int) < (x.size : Int) := by omega
          have HLD : Veil (¬ (1 < e - p ∧ (s.data.toList.drop p).head? = some 48)) := ⟨fun h => h1 h.1⟩
          go_upto_region 7 with (fail)
          by_cases hv9 : (9007199254740991 : Int) < u
          · have HVN : Veil (v = tokV p none) := ⟨by rw [← HV.out, hnum.out, if_pos (.inl hv9)]⟩
            go_wp2
            obtain ⟨hz1, hz2⟩ := fill4 HBT.out (.int .i64 0) (.string ⟨#[]⟩) (.int .i64 0) (.int .i64 0) HBB.out (by have := HGG.out; omega)
            generalize (((w2.setCell ⟨g, 0, none⟩ (.int .i64 0)).setCell ⟨g, 1, none⟩ (.string ⟨#[]⟩)).setCell ⟨g, 2, none⟩ (.int .i64 0)).setCell ⟨g, 3, none⟩ (.int .i64 0) = W9 at hz1 hz2 ⊢
            have q0 : W9.cell? ⟨g, 0, none⟩ = some (.int .i64 0) := hz1.at_ 0
            have q1 : W9.cell? ⟨g, 1, none⟩ = some (.string ⟨#[]⟩) := hz1.at_ 1
            have q2 : W9.cell? ⟨g, 2, none⟩ = some (.int .i64 0) := hz1.at_ 2
            have q3 : W9.cell? ⟨g, 3, none⟩ = some (.int .i64 0) := hz1.at_ 3
            rw [HVN.out]
            exact bodyPost_ret (v := .tuple #[.agg #[.int .i64 0, .string ⟨#[]⟩, .int .i64 0, .int .i64 0], .int .i64 (p : Int)]) (by simp [results, Tryd.results18, go_sem, q0, q1, q2, q3]) rfl ⟨rfl, hz2⟩
          · have HVS : Veil (v = .tuple #[.agg #[.int .i64 3, .string x, .int .i64 (p : Int), .int .i64 u], .int .i64 (e : Int)]) := ⟨by
              rw [← HV.out, hnum.out, if_neg (by rintro (h | h | h); exact hv9 h; exact HLD.out h; rw [hhd.out] at h; cases h)]
              exact tokV_some (by_inj rfl) (by omega)⟩
            go_wp2
            obtain ⟨hz1, hz2⟩ := fill4 HBT.out (.int .i64 3) (.string x) (.int .i64 (p : Int)) (.int .i64 u) HBB.out (by have := HGG.out; omega)
            generalize (((w2.setCell ⟨g, 0, none⟩ (.int .i64 3)).setCell ⟨g, 1, none⟩ (.string x)).setCell ⟨g, 2, none⟩ (.int .i64 (p : Int))).setCell ⟨g, 3, none⟩ (.int .i64 u) = W9 at hz1 hz2 ⊢
            have q0 : W9.cell? ⟨g, 0, none⟩ = some (.int .i64 3) := hz1.at_ 0
            have q1 : W9.cell? ⟨g, 1, none⟩ = some (.string x) := hz1.at_ 1
            have q2 : W9.cell? ⟨g, 2, none⟩ = some (.int .i64 (p : Int)) := hz1.at_ 2
            have q3 : W9.cell? ⟨g, 3, none⟩ = some (.int .i64 u) := hz1.at_ 3
            rw [HVS.out]
            exact bodyPost_ret (v := .tuple #[.agg #[.int .i64 3, .string x, .int .i64 (p : Int), .int .i64 u], .int .i64 (e : Int)]) (by simp [results, Tryd.results18, go_sem, q0, q1, q2, q3]) rfl ⟨rfl, hz2⟩
      | range =>
        rw [hq] at hnum0
        have hnum := Veil.mk hnum0
        have HVN : Veil (v = tokV p none) := ⟨by rw [← HV.out, hnum.out]⟩
        have HPI : Veil (∀ w, Gl w → Calls Tryd.prog 25 #[.string x, .int .i64 10, .int .i64 64] w fun e w' => ∃ (n : Int) (te : TypeId) (pe : Value), e = .returned (.tuple #[.int .i64 n, .iface te pe]) ∧ Below w.heap.size w w') := ⟨fun w hg => (parse_any x (by omega) hne hdg w hg).mono (by
          rintro e9 w9 (⟨v9, h1, _⟩ | ⟨_, h1⟩)
          · rw [hq] at h1
            cases h1
          · exact h1)⟩
        clear hdg hlenx hnum0 hq hne
        generalize w.alloc (.cells #[.int .i64 0, .string ⟨#[]⟩, .int .i64 0, .int .i64 0] 31) = W0 at l0 b0 HG ⊢
        go_upto_region 6 with (first | (go_at_call 25; ((with_reducible refine (HPI.out _ HG.out).mono ?_); rintro e9 w2 ⟨n9, te9, pe9, rfl, hb2⟩)))
        have HBB := Veil.mk (l0.trans (hb2.mono l0.size))
        have bT := b0.on hb2 b0.lt
        obtain ⟨g, hg⟩ : ∃ g, w.heap.size = g := ⟨_, rfl⟩
        rw [hg] at bT ⊢
        have t0 : w2.cell? ⟨g, 0, none⟩ = some (.int .i64 0) := bT.at_ 0
        have t1 : w2.cell? ⟨g, 1, none⟩ = some (.string ⟨#[]⟩) := bT.at_ 1
        have t2 : w2.cell? ⟨g, 2, none⟩ = some (.int .i64 0) := bT.at_ 2
        have t3 : w2.cell? ⟨g, 3, none⟩ = some (.int .i64 0) := bT.at_ 3
        have f0 := bT.free 0
        have f1 := bT.free 1
        have f2 := bT.free 2
        have f3 := bT.free 3
        have HBT := Veil.mk bT
        have HGG := Veil.mk hg
        clear l0 b0 hb2 bT hg
        by_cases h1 : 1 < e - p
        · have h1' : (1 : Int) < (x.size : Int) := by omega
          have hx0 : 0 < x.size := by omega
          have hx0' : (0 : Int) < (x.size : Int) := by omega
          obtain ⟨c0, hc0⟩ : ∃ c, x[0] = c := ⟨_, rfl⟩
          have hhead : Veil ((s.data.toList.drop p).head? = some c0) := ⟨by
            have h2 := get0 x hx0
            rw [hc0, HX.out] at h2
            rw [show (s.data.toList.drop p).head? = ((s.data.toList.drop p).take (e - p)).head? by rw [List.head?_take, if_neg (by omega)], h2]
            rfl⟩
          by_cases h48 : c0.toNat = 48
          · have h48' : ((c0.toNat : Int) == 48) = true := beq_iff_eq.2 (by omega)
            have HLD : Veil (1 < e - p ∧ (s.data.toList.drop p).head? = some 48) := ⟨h1, by rw [hhead.out]; congr 1; exact UInt8.toNat_inj.1 h48⟩
            clear h48
            go_upto_region 7 with (fail)
            go_wp2
            obtain ⟨hz1, hz2⟩ := fill4 HBT.out (.int .i64 0) (.string ⟨#[]⟩) (.int .i64 0) (.int .i64 0) HBB.out (by have := HGG.out; omega)
            generalize (((w2.setCell ⟨g, 0, none⟩ (.int .i64 0)).setCell ⟨g, 1, none⟩ (.string ⟨#[]⟩)).setCell ⟨g, 2, none⟩ (.int .i64 0)).setCell ⟨g, 3, none⟩ (.int .i64 0) = W9 at hz1 hz2 ⊢
            have q0 : W9.cell? ⟨g, 0, none⟩ = some (.int .i64 0) := hz1.at_ 0
            have q1 : W9.cell? ⟨g, 1, none⟩ = some (.string ⟨#[]⟩) := hz1.at_ 1
            have q2 : W9.cell? ⟨g, 2, none⟩ = some (.int .i64 0) := hz1.at_ 2
            have q3 : W9.cell? ⟨g, 3, none⟩ = some (.int .i64 0) := hz1.at_ 3
            rw [HVN.out]
            exact bodyPost_ret (v := .tuple #[.agg #[.int .i64 0, .string ⟨#[]⟩, .int .i64 0, .int .i64 0], .int .i64 (p : Int)]) (by simp [results, Tryd.results18, go_sem, q0, q1, q2, q3]) rfl ⟨rfl, hz2⟩
          · have h48' : ((c0.toNat : Int) == 48) = false := beq_eq_false_iff_ne.2 (by omega)
            have HLD : Veil (¬ (1 < e - p ∧ (s.data.toList.drop p).head? = some 48)) := ⟨fun h => by
              have h3 := h.2
              rw [hhead.out] at h3
              injection h3 with h3
              exact h48 (by rw [h3]; rfl)⟩
            clear h48
            go_upto_region 7 with (fail)
            go_wp2
            obtain ⟨hz1, hz2⟩ := fill4 HBT.out (.int .i64 0) (.string ⟨#[]⟩) (.int .i64 0) (.int .i64 0) HBB.out (by have := HGG.out; omega)
            generalize (((w2.setCell ⟨g, 0, none⟩ (.int .i64 0)).setCell ⟨g, 1, none⟩ (.string ⟨#[]⟩)).setCell ⟨g, 2, none⟩ (.int .i64 0)).setCell ⟨g, 3, none⟩ (.int .i64 0) = W9 at hz1 hz2 ⊢
            have q0 : W9.cell? ⟨g, 0, none⟩ = some (.int .i64 0) := hz1.at_ 0
            have q1 : W9.cell? ⟨g, 1, none⟩ = some (.string ⟨#[]⟩) := hz1.at_ 1
            have q2 : W9.cell? ⟨g, 2, none⟩ = some (.int .i64 0) := hz1.at_ 2
            have q3 : W9.cell? ⟨g, 3, none⟩ = some (.int .i64 0) := hz1.at_ 3
            rw [HVN.out]
            exact bodyPost_ret (v := .tuple #[.agg #[.int .i64 0, .string ⟨#[]⟩, .int .i64 0, .int .i64 0], .int .i64 (p : Int)]) (by simp [results, Tryd.results18, go_sem, q0, q1, q2, q3]) rfl ⟨rfl, hz2⟩
        · have h1' : ¬ (1 : Int) < (x.size : Int) := by omega
          have HLD : Veil (¬ (1 < e - p ∧ (s.data.toList.drop p).head? = some 48)) := ⟨fun h => h1 h.1⟩
          go_upto_region 7 with (fail)
          go_wp2
          obtain ⟨hz1, hz2⟩ := fill4 HBT.out (.int .i64 0) (.string ⟨#[]⟩) (.int .i64 0) (.int .i64 0) HBB.out (by have := HGG.out; omega)
          generalize (((w2.setCell ⟨g, 0, none⟩ (.int .i64 0)).setCell ⟨g, 1, none⟩ (.string ⟨#[]⟩)).setCell ⟨g, 2, none⟩ (.int .i64 0)).setCell ⟨g, 3, none⟩ (.int .i64 0) = W9 at hz1 hz2 ⊢
          have q0 : W9.cell? ⟨g, 0, none⟩ = some (.int .i64 0) := hz1.at_ 0
          have q1 : W9.cell? ⟨g, 1, none⟩ = some (.string ⟨#[]⟩) := hz1.at_ 1
          have q2 : W9.cell? ⟨g, 2, none⟩ = some (.int .i64 0) := hz1.at_ 2
          have q3 : W9.cell? ⟨g, 3, none⟩ = some (.int .i64 0) := hz1.at_ 3
          rw [HVN.out]
          exact bodyPost_ret (v := .tuple #[.agg #[.int .i64 0, .string ⟨#[]⟩, .int .i64 0, .int .i64 0], .int .i64 (p : Int)]) (by simp [results, Tryd.results18, go_sem, q0, q1, q2, q3]) rfl ⟨rfl, hz2⟩
end Go.Proofs.YtfejompnjaifmaaDoor
