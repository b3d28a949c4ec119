/- Package lex: quoted. -/
import Derived.Test.YtfejompnjaifmaaDoorLh
import Derived.Test.YtfejompnjaifmaaDoorLi
import Derived.Test.YtfejompnjaifmaaDoorLj
namespace Go.Proofs.YtfejompnjaifmaaDoor
open Go Go.RowKit

theorem Bld.below {B b : Nat} {l : List UInt8} {A C : World} (h : Bld B b l A) (hb : Below A.heap.size A C) : Bld B b l C := by
  have hg : A.grownBy C none := by
    obtain ⟨a1, a2, a3, a4, a5⟩ := hb
    exact ⟨a1, a2, a3, a4, fun k hk _ => a5 k hk⟩
  have key : ∀ p, Lib.BuilderAt 57 5 B b p (Lib.byteCells l) A → Lib.BuilderAt 57 5 B b p (Lib.byteCells l) C := fun p ⟨hB, v, hbk, hown, hne⟩ => by
    refine ⟨hB, v, ?_, hown.kept hg ?_, hne⟩
    · rw [hg.block b (lt_of_block hbk) (fun e => by cases e)]
      exact hbk
    · rcases hown.2 with ⟨rfl, _⟩ | ⟨g, cap, cur, rfl, _, hc, _⟩
      · exact .inl rfl
      · exact .inr (fun e => by cases e)
  rcases h with h | h
  · exact .inl (key _ h)
  · exact .inr (key _ h)
/-- The units of a text, of its bytes. -/
def ofL (l : By) : By := ofB ⟨l.toArray⟩
theorem ofL_eq (x : ByteArray) : ofL x.data.toList = ofB x := by
  unfold ofL
  rw [show (⟨x.data.toList.toArray⟩ : ByteArray) = x from by_inj rfl]
theorem ofFrom_len (s : ByteArray) : ∀ f p, (ofFrom s f p).length ≤ 4 * f
  | 0, p => by simp [ofFrom]
  | f + 1, p => by
    unfold ofFrom
    split
    · rw [List.length_append]
      have := ofR_length (Utf8.decode s p).1
      have := ofFrom_len s f (p + (Utf8.decode s p).2)
      omega
    · simp
theorem ofB_len (s : ByteArray) : (ofB s).length ≤ 4 * s.size := ofFrom_len s s.size 0
theorem hexF_lt : ∀ (l : By) (u v : Nat), u < 65536 → hexF u l = some v → v < 65536
  | [], u, v, hu, h => by injection h with h; omega
  | c :: r, u, v, hu, h => by
    unfold hexF at h
    cases hq : hexV c with
    | none => rw [hq] at h; cases h
    | some d => rw [hq] at h; exact hexF_lt r _ v (Nat.mod_lt _ (by decide)) h
theorem escL_ok {l : By} {u n : Nat} (h : escL l = some (u, n)) : 1 ≤ n ∧ n ≤ l.length ∧ u < 65536 := by
  cases l with
  | nil => cases h
  | cons c r =>
    have hl : 1 ≤ (c :: r).length := by rw [List.length_cons]; omega
    have hc := c.toNat_lt
    unfold escL at h
    simp only at h
    split at h
    · injection h with h; injection h with h1 h2; omega
    · split at h
      · injection h with h; injection h with h1 h2; omega
      · split at h
        · injection h with h; injection h with h1 h2; omega
        · split at h
          · injection h with h; injection h with h1 h2; omega
          · split at h
            · split at h
              · cases h
              · cases hq : hexF 0 (((c :: r).drop 1).take 4) with
                | none => rw [hq] at h; cases h
                | some v =>
                  rw [hq] at h
                  injection h with h
                  injection h with h1 h2
                  have := hexF_lt _ 0 v (by decide) hq
                  omega
            · cases h
def UsedPost (b : Nat) (l : By) (v : Value) (w : World) (e : Ending) (w' : World) : Prop := e = .returned v ∧ Used b b l w w'
/-- What quoted gives, said of its parts. -/
def quotV (p : Nat) (o : Option (By × Nat)) : Value := tokV p (o.map fun p => ⟨4, p.1, 0, p.2⟩)
set_option maxHeartbeats 8000000 in
set_option maxRecDepth 100000 in
theorem quoted_any (s : ByteArray) (hs : s.size ≤ 20000) : QuoteC ofL s := by
  intro p hp hq0 w hG
  obtain ⟨v, hv⟩ : ∃ v, tokV p ((quotL ofL s[p] ((s.data.toList.drop (p + 1)).length + 1) (s.data.toList.drop (p + 1)) [] [] 1).map fun p => ⟨4, p.1, 0, p.2⟩) = v := ⟨_, rfl⟩
  rw [hv]
  have HLN : Veil (s.data.toList.length = s.size) := ⟨Array.length_toList⟩
  obtain ⟨c0, hc0⟩ : ∃ c, s[p] = c := ⟨_, rfl⟩
  rw [hc0] at hv hq0
  have HV : Veil (quotV p (quotL ofL c0 (s.size - p) (s.data.toList.drop (p + 1)) [] [] 1) = v) := ⟨by
    rw [← hv, show (s.data.toList.drop (p + 1)).length + 1 = s.size - p by rw [List.length_drop, HLN.out]; omega]
    rfl⟩
  clear hv hG
  have hpS : (p : Int) < (s.size : Int) := by omega
  have hp00 : (0 : Int) ≤ (p : Int) := by omega
  have l0 : Below w.heap.size w (w.alloc (.cells #[.int .i64 0, .string ⟨#[]⟩, .int .i64 0, .int .i64 0] 31)) := (Below.refl _ _).alloc (Nat.le_refl _) _
  have b0 : Box (w.alloc (.cells #[.int .i64 0, .string ⟨#[]⟩, .int .i64 0, .int .i64 0] 31)) w.heap.size 31 #[.int .i64 0, .string ⟨#[]⟩, .int .i64 0, .int .i64 0] := Box.new w _ _
  have hsz0 : (w.alloc (.cells #[.int .i64 0, .string ⟨#[]⟩, .int .i64 0, .int .i64 0] 31)).heap.size = w.heap.size + 1 := by simp
  go_enter Tryd.func19, Tryd.ntmps19
  go_upto_region 1 with (fail)
  obtain ⟨g, hg⟩ : ∃ g, w.heap.size = g := ⟨_, rfl⟩
  have HGG := Veil.mk hg
  try rw [hg]
  rw [hg] at b0 hsz0
  generalize w.alloc (.cells #[.int .i64 0, .string ⟨#[]⟩, .int .i64 0, .int .i64 0] 31) = W0 at l0 b0 hsz0 ⊢
  have HS0 := Veil.mk hsz0
  clear hsz0
  have hbl0 : Bld W0.heap.size W0.heap.size [] (W0.alloc (.cells #[.pointer none, .slice none 0 0] 57)) := Lib.fresh_isBuilder _ _ W0
  have hbe0 : Below W0.heap.size W0 (W0.alloc (.cells #[.pointer none, .slice none 0 0] 57)) := (Below.refl _ _).alloc (Nat.le_refl _) _
  go_upto_region 2 with (fail)
  obtain ⟨b, hb⟩ : ∃ b, W0.heap.size = b := ⟨_, rfl⟩
  have hgb : g < b := by have := HS0.out; omega
  have hsz1 : b ≤ (W0.alloc (.cells #[.pointer none, .slice none 0 0] 57)).heap.size := by simp; omega
  try rw [hb]
  rw [hb] at hbl0 hbe0
  generalize W0.alloc (.cells #[.pointer none, .slice none 0 0] 57) = W1 at hbl0 hbe0 hsz1 ⊢
  have HB1 : Veil (Below g w W1 ∧ Box W1 g 31 #[.int .i64 0, .string ⟨#[]⟩, .int .i64 0, .int .i64 0]) := ⟨by rw [← hg]; exact l0.trans (hbe0.mono (by omega)), b0.on hbe0 hgb⟩
  have HBB1 := Veil.mk hbl0
  have HSZ1 := Veil.mk hsz1
  clear l0 b0 HS0 hbl0 hbe0 hb hsz1
  go_wp2
  go_loopw [7, 8] (fun a i wr => ∃ (j k f : Nat) (acc : By), p + 1 ≤ j ∧ j ≤ k ∧ k ≤ s.size ∧ s.size + 1 ≤ k + f ∧ a = .int .i64 (j : Int) ∧ i = .int .i64 (k : Int) ∧ acc.length ≤ 4 * j ∧ Veil (Below b W1 wr) ∧ Veil (Bld b b acc wr) ∧ Veil (quotV p (quotL ofL c0 f (s.data.toList.drop k) ((s.data.toList.drop j).take (k - j)) acc (k - p)) = v)) (fun _ i _ => s.size - (intOf i).toNat)
  case atStart => exact ⟨p + 1, p + 1, s.size - p, [], Nat.le_refl _, Nat.le_refl _, hp, by omega, rfl, rfl, by simp, ⟨Below.refl _ _⟩, HBB1, ⟨by rw [Nat.sub_self, List.take_zero, show p + 1 - p = 1 by omega]; exact HV.out⟩⟩
  case round =>
    obtain ⟨j, k, f, acc, hpj, hjk, hks, hf, rfl, rfl, hal, hBw, hBl, hR⟩ := hrel
    have hbT := HB1.out.2.on hBw.out hgb
    have HBT := Veil.mk hbT
    have HBB : Veil (Below w.heap.size w wr) := ⟨by rw [HGG.out]; exact HB1.out.1.trans (hBw.out.mono (by omega))⟩
    have HSW : Veil (b ≤ wr.heap.size) := ⟨Nat.le_trans HSZ1.out hBw.out.size⟩
    have hk0 : (0 : Int) ≤ (k : Int) := by omega
    have hj0 : (0 : Int) ≤ (j : Int) := by omega
    have hjk' : (j : Int) ≤ (k : Int) := by omega
    by_cases hlt : k < s.size
    · have hlt' : (k : Int) < (s.size : Int) := by omega
      obtain ⟨f, rfl⟩ : ∃ f', f = f' + 1 := ⟨f - 1, by omega⟩
      obtain ⟨c, hc⟩ : ∃ c, c = s[k] := ⟨_, rfl⟩
      have hc2 := hc.symm
      have HD : Veil (s.data.toList.drop k = c :: s.data.toList.drop (k + 1)) := ⟨by rw [List.drop_eq_getElem_cons (by rw [HLN.out]; exact hlt), hc]; rfl⟩
      clear hc
      by_cases h10 : c.toNat = 10
      · have h10' : ((c.toNat : Int) == 10) = true := beq_iff_eq.2 (by omega)
        have HVN : Veil (v = tokV p none) := ⟨by rw [← hR.out, HD.out, show c = 10 from UInt8.toNat_inj.1 h10]; rfl⟩
        have t0 : wr.cell? ⟨g, 0, none⟩ = some (.int .i64 0) := hbT.at_ 0
        have t1 : wr.cell? ⟨g, 1, none⟩ = some (.string ⟨#[]⟩) := hbT.at_ 1
        have t2 : wr.cell? ⟨g, 2, none⟩ = some (.int .i64 0) := hbT.at_ 2
        have t3 : wr.cell? ⟨g, 3, none⟩ = some (.int .i64 0) := hbT.at_ 3
        have f0 := hbT.free 0
        have f1 := hbT.free 1
        have f2 := hbT.free 2
        have f3 := hbT.free 3
        clear h10 hbT
        go_wp2
        obtain ⟨hz1, hz2⟩ := fill4 HBT.out (.int .i64 0) (.string ⟨#[]⟩) (.int .i64 0) (.int .i64 0) HBB.out (by have := HGG.out; omega)
        generalize (((wr.setCell ⟨g, 0, none⟩ (.int .i64 0)).setCell ⟨g, 1, none⟩ (.string ⟨#[]⟩)).setCell ⟨g, 2, none⟩ (.int .i64 0)).setCell ⟨g, 3, none⟩ (.int .i64 0) = W9 at hz1 hz2 ⊢
        have q0 : W9.cell? ⟨g, 0, none⟩ = some (.int .i64 0) := hz1.at_ 0
        have q1 : W9.cell? ⟨g, 1, none⟩ = some (.string ⟨#[]⟩) := hz1.at_ 1
        have q2 : W9.cell? ⟨g, 2, none⟩ = some (.int .i64 0) := hz1.at_ 2
        have q3 : W9.cell? ⟨g, 3, none⟩ = some (.int .i64 0) := hz1.at_ 3
        rw [HVN.out]
        exact bodyPost_ret (v := .tuple #[.agg #[.int .i64 0, .string ⟨#[]⟩, .int .i64 0, .int .i64 0], .int .i64 ((p : Int))]) (by simp [results, Tryd.results19, go_sem, q0, q1, q2, q3]) rfl ⟨rfl, hz2⟩
      · have h10' : ((c.toNat : Int) == 10) = false := beq_eq_false_iff_ne.2 (by omega)
        have hn10 : ¬ c = 10 := fun e => h10 (by rw [e]; rfl)
        obtain ⟨x, hx⟩ : ∃ x, x = s.extract j k := ⟨_, rfl⟩
        have hx2 := hx.symm
        have HX : Veil (x.data.toList = (s.data.toList.drop j).take (k - j)) := ⟨by rw [hx, Lib.extract_data]⟩
        have HXS : Veil (x.size + j = k) := ⟨by rw [hx, ByteArray.size_extract]; omega⟩
        clear hx
        have HOF : Veil (∀ w, Calls Tryd.prog 27 #[.string x] w fun e w' => e = .returned (.string ⟨(ofB x).toArray⟩) ∧ Below w.heap.size w w') := ⟨fun w => of_any x (by have := HXS.out; omega) w⟩
        have HOL : Veil ((ofB x).length ≤ 4 * (k - j)) := ⟨by have := ofB_len x; have := HXS.out; omega⟩
        have HWS : Veil (∀ w, Bld b b acc w → b ≤ w.heap.size → Calls Tryd.prog 26 #[.pointer (some ⟨b, 0, none⟩), .string ⟨(ofB x).toArray⟩] w (UsedPost b (acc ++ ofB x) (.tuple #[.int .i64 ((ofB x).length : Nat), .nilIface]) w)) := ⟨fun w h hw => by
          have h1 := writeString_any b b acc ⟨(ofB x).toArray⟩ w h (by have := HOL.out; show acc.length + (ofB x).length ≤ _; omega) hw
          exact h1⟩
        by_cases hcq : c = c0
        · subst hcq
          have hcc' : ((c.toNat : Int) == (c.toNat : Int)) = true := beq_iff_eq.2 rfl
          have HVN : Veil (v = .tuple #[.agg #[.int .i64 4, .string ⟨(acc ++ ofB x).toArray⟩, .int .i64 (p : Int), .int .i64 0], .int .i64 ((k : Int) + 1)]) := ⟨by
            rw [← hR.out, HD.out]
            unfold quotL
            rw [if_neg hn10, if_pos rfl, ← HX.out, ofL_eq]
            exact (tokV_some (e := k + 1) rfl (by omega)).trans (by simp)⟩
          clear hbT hR h10
          go_upto_region 11 with (first | (go_at_call 27; ((with_reducible refine (HOF.out _).mono ?_); rintro e9 w2 ⟨rfl, hb2⟩; have HB2 := Veil.mk hb2; clear hb2)) | (go_at_call 26; ((with_reducible refine (HWS.out _ (hBl.out.below HB2.out) (Nat.le_trans HSW.out HB2.out.size)).mono ?_); rintro e9 w3 ⟨rfl, hu⟩; have HU := Veil.mk hu; clear hu)))
          have HW3 : Veil (Below b W1 w3) := ⟨(hBw.out.trans (HB2.out.mono HSW.out)).trans HU.out.2.1⟩
          have HST : Veil (∀ w, Bld b b (acc ++ ofB x) w → b ≤ w.heap.size → Calls Tryd.prog 28 #[.pointer (some ⟨b, 0, none⟩)] w fun e w' => e = .returned (.string ⟨(acc ++ ofB x).toArray⟩) ∧ Below b w w') := ⟨fun w h hw => Tryd.Builder_String_any b b (acc ++ ofB x) w h hw⟩
          go_wp2_with (first | (go_at_call 28; ((with_reducible refine (HST.out _ HU.out.bld (Nat.le_trans HSZ1.out HW3.out.size)).mono ?_); rintro e9 w4 ⟨rfl, hb4⟩; have HB4 := Veil.mk hb4; clear hb4; have hb5 := HB1.out.2.on (HW3.out.trans HB4.out) hgb; have HBT5 := Veil.mk hb5; have t0 : w4.cell? ⟨g, 0, none⟩ = some (.int .i64 0) := hb5.at_ 0; have t1 : w4.cell? ⟨g, 1, none⟩ = some (.string ⟨#[]⟩) := hb5.at_ 1; have t2 : w4.cell? ⟨g, 2, none⟩ = some (.int .i64 0) := hb5.at_ 2; have t3 : w4.cell? ⟨g, 3, none⟩ = some (.int .i64 0) := hb5.at_ 3; have f0 := hb5.free 0; have f1 := hb5.free 1; have f2 := hb5.free 2; have f3 := hb5.free 3; clear hb5)))
          have HBB5 : Veil (Below w.heap.size w w4) := ⟨by rw [HGG.out]; exact HB1.out.1.trans ((HW3.out.trans HB4.out).mono (by omega))⟩
          obtain ⟨hz1, hz2⟩ := fill4 HBT5.out (.int .i64 4) (.string ⟨(acc ++ ofB x).toArray⟩) (.int .i64 (p : Int)) (.int .i64 0) HBB5.out (by have := HGG.out; omega)
          generalize (((w4.setCell ⟨g, 0, none⟩ (.int .i64 4)).setCell ⟨g, 1, none⟩ (.string ⟨(acc ++ ofB x).toArray⟩)).setCell ⟨g, 2, none⟩ (.int .i64 (p : Int))).setCell ⟨g, 3, none⟩ (.int .i64 0) = W9 at hz1 hz2 ⊢
          have q0 : W9.cell? ⟨g, 0, none⟩ = some (.int .i64 4) := hz1.at_ 0
          have q1 : W9.cell? ⟨g, 1, none⟩ = some (.string ⟨(acc ++ ofB x).toArray⟩) := hz1.at_ 1
          have q2 : W9.cell? ⟨g, 2, none⟩ = some (.int .i64 (p : Int)) := hz1.at_ 2
          have q3 : W9.cell? ⟨g, 3, none⟩ = some (.int .i64 0) := hz1.at_ 3
          rw [HVN.out]
          exact bodyPost_ret (v := .tuple #[.agg #[.int .i64 4, .string ⟨(acc ++ ofB x).toArray⟩, .int .i64 (p : Int), .int .i64 0], .int .i64 ((k : Int) + 1)]) (by simp [results, Tryd.results19, go_sem, q0, q1, q2, q3]) rfl ⟨rfl, hz2⟩
        · have hcc' : ((c.toNat : Int) == (c0.toNat : Int)) = false := beq_eq_false_iff_ne.2 (fun e => hcq (UInt8.toNat_inj.1 (by omega)))
          by_cases h92 : c.toNat = 92
          · have h92' : ((c.toNat : Int) == 92) = true := beq_iff_eq.2 (by omega)
            have hk1 : (0 : Int) ≤ (k : Int) + 1 := by omega
            have hk2 : (k : Int) + 1 ≤ (s.size : Int) := by omega
            have hk3 : ((k : Int) + 1).toNat = k + 1 := by omega
            obtain ⟨y, hy⟩ : ∃ y, y = s.extract (k + 1) s.size := ⟨_, rfl⟩
            have hy2 := hy.symm
            have HY : Veil (y.data.toList = s.data.toList.drop (k + 1)) := ⟨by rw [hy]; exact Lib.extract_to_end s (k + 1)⟩
            have HYS : Veil (y.size ≤ 20000) := ⟨by rw [hy, ByteArray.size_extract]; omega⟩
            have HRR : Veil (quotV p (match escL (s.data.toList.drop (k + 1)) with
                | none => none
                | some (u, n) => quotL ofL c0 f ((s.data.toList.drop (k + 1)).drop n) [] (acc ++ ofB x ++ [UInt8.ofNat (u / 256), UInt8.ofNat (u % 256)]) (k - p + 1 + n)) = v) := ⟨by
              rw [← hR.out, HD.out]
              conv => rhs; unfold quotL
              rw [if_neg hn10, if_neg hcq, if_pos (UInt8.toNat_inj.1 h92), ← HX.out, ofL_eq]
              generalize escL (s.data.toList.drop (k + 1)) = o
              cases o <;> rfl⟩
            clear hy hR h92 h10 hcq hn10
            cases he : escL (s.data.toList.drop (k + 1)) with
            | none =>
              rw [he] at HRR
              have HES : Veil (∀ w, Calls Tryd.prog 29 #[.string y] w (BelPost w (.tuple #[.int .u16 0, .int .i64 0]))) := ⟨fun w => by
                have h := escape_any y HYS.out w
                rw [HY.out, he] at h
                exact h⟩
              have HVN : Veil (v = tokV p none) := ⟨HRR.out.symm⟩
              clear he HRR
              go_wp2_with (first | (go_at_call 29; ((with_reducible refine (HES.out _).mono ?_); rintro e9 w2 ⟨rfl, hb2⟩; have HB2 := Veil.mk hb2; clear hb2; have hb5 := HB1.out.2.on (hBw.out.trans (HB2.out.mono HSW.out)) hgb; have HBT5 := Veil.mk hb5; have t0 : w2.cell? ⟨g, 0, none⟩ = some (.int .i64 0) := hb5.at_ 0; have t1 : w2.cell? ⟨g, 1, none⟩ = some (.string ⟨#[]⟩) := hb5.at_ 1; have t2 : w2.cell? ⟨g, 2, none⟩ = some (.int .i64 0) := hb5.at_ 2; have t3 : w2.cell? ⟨g, 3, none⟩ = some (.int .i64 0) := hb5.at_ 3; have f0 := hb5.free 0; have f1 := hb5.free 1; have f2 := hb5.free 2; have f3 := hb5.free 3; clear hb5)))
              have HBB5 : Veil (Below w.heap.size w w2) := ⟨by rw [HGG.out]; exact HB1.out.1.trans ((hBw.out.trans (HB2.out.mono HSW.out)).mono (by omega))⟩
              obtain ⟨hz1, hz2⟩ := fill4 HBT5.out (.int .i64 0) (.string ⟨#[]⟩) (.int .i64 0) (.int .i64 0) HBB5.out (by have := HGG.out; omega)
              generalize (((w2.setCell ⟨g, 0, none⟩ (.int .i64 0)).setCell ⟨g, 1, none⟩ (.string ⟨#[]⟩)).setCell ⟨g, 2, none⟩ (.int .i64 0)).setCell ⟨g, 3, none⟩ (.int .i64 0) = W9 at hz1 hz2 ⊢
              have q0 : W9.cell? ⟨g, 0, none⟩ = some (.int .i64 0) := hz1.at_ 0
              have q1 : W9.cell? ⟨g, 1, none⟩ = some (.string ⟨#[]⟩) := hz1.at_ 1
              have q2 : W9.cell? ⟨g, 2, none⟩ = some (.int .i64 0) := hz1.at_ 2
              have q3 : W9.cell? ⟨g, 3, none⟩ = some (.int .i64 0) := hz1.at_ 3
              rw [HVN.out]
              exact bodyPost_ret (v := .tuple #[.agg #[.int .i64 0, .string ⟨#[]⟩, .int .i64 0, .int .i64 0], .int .i64 ((p : Int))]) (by simp [results, Tryd.results19, go_sem, q0, q1, q2, q3]) rfl ⟨rfl, hz2⟩
            | some un =>
              obtain ⟨u, n⟩ := un
              obtain ⟨hn1, hn2, hu⟩ := escL_ok he
              rw [List.length_drop, HLN.out] at hn2
              rw [he] at HRR
              have HES : Veil (∀ w, Calls Tryd.prog 29 #[.string y] w (BelPost w (.tuple #[.int .u16 (u : Int), .int .i64 (n : Int)]))) := ⟨fun w => by
                have h := escape_any y HYS.out w
                rw [HY.out, he] at h
                exact h⟩
              have hn0 : ((n : Int) == 0) = false := beq_eq_false_iff_ne.2 (by omega)
              have HWB : Veil (∀ (l : By) (c : UInt8) w, l.length ≤ 999999 → Bld b b l w → b ≤ w.heap.size → Calls Tryd.prog 30 #[.pointer (some ⟨b, 0, none⟩), .int .u8 (c.toNat : Int)] w (UsedPost b (l ++ [c]) .nilIface w)) := ⟨fun l c w hl h hw => writeByte_any b b l c w h (by omega) hw⟩
              clear he
              go_upto_region 17 with (first | (go_at_call 29; ((with_reducible refine (HES.out _).mono ?_); rintro e9 w2 ⟨rfl, hb2⟩; have HB2 := Veil.mk hb2; clear hb2)) | (go_at_call 27; ((with_reducible refine (HOF.out _).mono ?_); rintro e9 w3 ⟨rfl, hb3⟩; have HB3 := Veil.mk hb3; clear hb3)) | (go_at_call 26; ((with_reducible refine (HWS.out _ ((hBl.out.below HB2.out).below HB3.out) (Nat.le_trans (Nat.le_trans HSW.out HB2.out.size) HB3.out.size)).mono ?_); rintro e9 w4 ⟨rfl, hu4⟩; have HU := Veil.mk hu4; clear hu4)))
              clear hbT
              have ha2 : (acc ++ ofB x).length ≤ 4 * k := by rw [List.length_append]; have := HOL.out; omega
              have e1 : ((UInt8.ofNat (u / 256)).toNat : Int) = (u : Int) / 256 := by rw [UInt8.toNat_ofNat_of_lt' (by show u / 256 < 256; omega)]; omega
              have e2 : ((UInt8.ofNat (u % 256)).toNat : Int) = (u : Int) % 256 := by rw [UInt8.toNat_ofNat_of_lt' (by show u % 256 < 256; omega)]; omega
              have HW1 : Veil (∀ w, Bld b b (acc ++ ofB x) w → b ≤ w.heap.size → Calls Tryd.prog 30 #[.pointer (some ⟨b, 0, none⟩), .int .u8 ((u : Int) / 256)] w (UsedPost b (acc ++ ofB x ++ [UInt8.ofNat (u / 256)]) .nilIface w)) := ⟨fun w h hw => by
                have h1 := HWB.out (acc ++ ofB x) (UInt8.ofNat (u / 256)) w (by omega) h hw
                rwa [e1] at h1⟩
              have HW2 : Veil (∀ w, Bld b b (acc ++ ofB x ++ [UInt8.ofNat (u / 256)]) w → b ≤ w.heap.size → Calls Tryd.prog 30 #[.pointer (some ⟨b, 0, none⟩), .int .u8 ((u : Int) % 256)] w (UsedPost b (acc ++ ofB x ++ [UInt8.ofNat (u / 256)] ++ [UInt8.ofNat (u % 256)]) .nilIface w)) := ⟨fun w h hw => by
                have h1 := HWB.out (acc ++ ofB x ++ [UInt8.ofNat (u / 256)]) (UInt8.ofNat (u % 256)) w (by rw [List.length_append]; simp only [List.length_cons, List.length_nil]; omega) h hw
                rwa [e2] at h1⟩
              have HN : Veil (quotV p (quotL ofL c0 f (s.data.toList.drop (k + 1 + n)) ((s.data.toList.drop (k + 1 + n)).take (k + 1 + n - (k + 1 + n))) (acc ++ ofB x ++ [UInt8.ofNat (u / 256)] ++ [UInt8.ofNat (u % 256)]) (k + 1 + n - p)) = v) := ⟨by
                rw [← HRR.out, Nat.sub_self, List.take_zero, List.append_assoc (acc ++ ofB x), show k + 1 + n - p = k - p + 1 + n by omega]
                show _ = quotV p (quotL ofL c0 f ((s.data.toList.drop (k + 1)).drop n) [] (acc ++ ofB x ++ [UInt8.ofNat (u / 256), UInt8.ofNat (u % 256)]) (k - p + 1 + n))
                rw [List.drop_drop]
                rfl⟩
              have HW4 : Veil (Below b W1 w4) := ⟨((hBw.out.trans (HB2.out.mono HSW.out)).trans (HB3.out.mono (Nat.le_trans HSW.out HB2.out.size))).trans HU.out.2.1⟩
              clear e1 e2 HRR
              go_upto_region 18 with (first | (go_at_call 30; ((with_reducible refine (HW1.out _ HU.out.bld (Nat.le_trans HSZ1.out HW4.out.size)).mono ?_); rintro e9 w5 ⟨rfl, hu5⟩; have HU5 := Veil.mk hu5; clear hu5)))
              have HW5 : Veil (Below b W1 w5) := ⟨HW4.out.trans HU5.out.2.1⟩
              go_upto_region 19 with (first | (go_at_call 30; ((with_reducible refine (HW2.out _ HU5.out.bld (Nat.le_trans HSZ1.out HW5.out.size)).mono ?_); rintro e9 w6 ⟨rfl, hu6⟩; have HU6 := Veil.mk hu6; clear hu6)))
              have HW6 : Veil (Below b W1 w6) := ⟨HW5.out.trans HU6.out.2.1⟩
              have hks2 : k + 1 + n ≤ s.size := by omega
              go_wp2
              go_roundw
              case rel => exact ⟨k + 1 + n, k + 1 + n, f, acc ++ ofB x ++ [UInt8.ofNat (u / 256)] ++ [UInt8.ofNat (u % 256)], by omega, Nat.le_refl _, hks2, by omega, by go_num, by go_num, by rw [List.length_append, List.length_append]; simp only [List.length_cons, List.length_nil]; omega, HW6, ⟨HU6.out.bld⟩, HN⟩
              case measure => simp [intOf]; omega
          · have h92' : ((c.toNat : Int) == 92) = false := beq_eq_false_iff_ne.2 (by omega)
            have hN : Veil (quotV p (quotL ofL c0 f (s.data.toList.drop (k + 1)) ((s.data.toList.drop j).take (k + 1 - j)) acc (k + 1 - p)) = v) := ⟨by
              rw [← hR.out, HD.out]
              conv => rhs; unfold quotL
              rw [if_neg hn10, if_neg hcq, if_neg (fun e => h92 (by rw [e]; rfl)), show k + 1 - p = k - p + 1 by omega, show k + 1 - j = (k - j) + 1 by omega]
              congr 2
              rw [List.take_add_one, List.getElem?_drop, show j + (k - j) = k by omega]
              have := congrArg List.head? HD.out
              rw [List.head?_drop] at this
              rw [this]
              rfl⟩
            clear h92 h10 hcq hn10 hbT
            go_wp2
            go_roundw
            case rel => exact ⟨j, k + 1, f, acc, hpj, by omega, by omega, by omega, rfl, by go_num, hal, hBw, hBl, hN⟩
            case measure => simp [intOf]; omega
    · have hlt' : ¬ (k : Int) < (s.size : Int) := by omega
      have HVN : Veil (v = tokV p none) := ⟨by rw [← hR.out, List.drop_eq_nil_of_le (by rw [HLN.out]; omega)]; cases f <;> rfl⟩
      have t0 : wr.cell? ⟨g, 0, none⟩ = some (.int .i64 0) := hbT.at_ 0
      have t1 : wr.cell? ⟨g, 1, none⟩ = some (.string ⟨#[]⟩) := hbT.at_ 1
      have t2 : wr.cell? ⟨g, 2, none⟩ = some (.int .i64 0) := hbT.at_ 2
      have t3 : wr.cell? ⟨g, 3, none⟩ = some (.int .i64 0) := hbT.at_ 3
      have f0 := hbT.free 0
      have f1 := hbT.free 1
      have f2 := hbT.free 2
      have f3 := hbT.free 3
      clear hbT
      go_wp2
      obtain ⟨hz1, hz2⟩ := fill4 HBT.out (.int .i64 0) (.string ⟨#[]⟩) (.int .i64 0) (.int .i64 0) HBB.out (by have := HGG.out; omega)
      generalize (((wr.setCell ⟨g, 0, none⟩ (.int .i64 0)).setCell ⟨g, 1, none⟩ (.string ⟨#[]⟩)).setCell ⟨g, 2, none⟩ (.int .i64 0)).setCell ⟨g, 3, none⟩ (.int .i64 0) = W9 at hz1 hz2 ⊢
      have q0 : W9.cell? ⟨g, 0, none⟩ = some (.int .i64 0) := hz1.at_ 0
      have q1 : W9.cell? ⟨g, 1, none⟩ = some (.string ⟨#[]⟩) := hz1.at_ 1
      have q2 : W9.cell? ⟨g, 2, none⟩ = some (.int .i64 0) := hz1.at_ 2
      have q3 : W9.cell? ⟨g, 3, none⟩ = some (.int .i64 0) := hz1.at_ 3
      rw [HVN.out]
      exact bodyPost_ret (v := .tuple #[.agg #[.int .i64 0, .string ⟨#[]⟩, .int .i64 0, .int .i64 0], .int .i64 ((p : Int))]) (by simp [results, Tryd.results19, go_sem, q0, q1, q2, q3]) rfl ⟨rfl, hz2⟩
end Go.Proofs.YtfejompnjaifmaaDoor
