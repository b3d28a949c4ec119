/- Package lex: name. -/
import Derived.Test.YtfejompnjaifmaaDoorLe
namespace Go.Proofs.YtfejompnjaifmaaDoor
open Go Go.RowKit

/-- What runs from p to e, all of it good. -/
def Run (f : UInt8 → Bool) (l : By) (p e : Nat) : Prop := (l.drop p).takeWhile f = (l.drop p).take (e - p) ++ (l.drop e).takeWhile f
theorem Run.start (f : UInt8 → Bool) (l : By) (p : Nat) : Run f l p p := by
  unfold Run
  rw [Nat.sub_self, List.take_zero, List.nil_append]
theorem Run.next {f : UInt8 → Bool} {l : By} {p e : Nat} (h : Run f l p e) (hp : p ≤ e) (he : e < l.length) (hf : f l[e] = true) : Run f l p (e + 1) := by
  unfold Run at h ⊢
  rw [h, List.drop_eq_getElem_cons he, List.takeWhile_cons, if_pos hf, show e + 1 - p = (e - p) + 1 by omega, List.take_succ_eq_append_getElem (by rw [List.length_drop]; omega), List.append_assoc]
  congr 1
  rw [List.getElem_drop]
  simp [show p + (e - p) = e by omega]
theorem Run.fin {f : UInt8 → Bool} {l : By} {p e : Nat} (h : Run f l p e) (hp : p ≤ e) (he : e ≤ l.length) (hn : ∀ (h : e < l.length), f l[e] = false) : (l.drop p).takeWhile f = (l.drop p).take (e - p) ∧ ((l.drop p).takeWhile f).length = e - p := by
  have h1 : (l.drop p).takeWhile f = (l.drop p).take (e - p) := by
    unfold Run at h
    rw [h]
    by_cases hl : e < l.length
    · rw [List.drop_eq_getElem_cons hl, List.takeWhile_cons, if_neg (by rw [hn hl]; exact Bool.false_ne_true), List.append_nil]
    · have hz : l.drop e = [] := List.drop_eq_nil_of_le (by omega)
      rw [hz]
      simp
  refine ⟨h1, ?_⟩
  rw [h1, List.length_take, List.length_drop]
  omega
theorem tokV_some {p e len : Nat} {k : Nat} {tx : By} {n : Int} {x : ByteArray} (hx : x = ⟨tx.toArray⟩) (he : p + len = e) : tokV p (some ⟨k, tx, n, len⟩) = .tuple #[.agg #[.int .i64 (k : Int), .string x, .int .i64 (p : Int), .int .i64 n], .int .i64 (e : Int)] := by
  subst hx he
  rfl
abbrev namB (c : UInt8) : Bool := letB c || digB c
def BelPost (w : World) (v : Value) (e : Ending) (w' : World) : Prop := e = .returned v ∧ Below w.heap.size w w'
set_option maxHeartbeats 4000000 in
set_option maxRecDepth 100000 in
theorem name_any (s : ByteArray) (hs : s.size ≤ 20000) (p : Nat) (hp : p < s.size) (w : World) :
    Calls Tryd.prog 16 #[.string s, .int .i64 (p : Int)] w (BelPost w (tokV p (nameL (s.data.toList.drop p)))) := by
  obtain ⟨v, hv⟩ : ∃ v, tokV p (nameL (s.data.toList.drop p)) = v := ⟨_, rfl⟩
  rw [hv]
  have HV := Veil.mk hv
  have HLN : Veil (s.data.toList.length = s.size) := ⟨Array.length_toList⟩
  clear hv
  go_enter Tryd.func16, Tryd.ntmps16
  go_wp2
  go_loop [6] (fun i => ∃ e : Nat, p ≤ e ∧ e ≤ s.size ∧ i = .int .i64 (e : Int) ∧ Veil (Run namB s.data.toList p e)) (fun i => s.size - (intOf i).toNat)
  case atStart => exact ⟨p, Nat.le_refl _, by omega, rfl, ⟨Run.start _ _ _⟩⟩
  case round =>
    obtain ⟨e, hpe, hes, rfl, hR⟩ := hrel
    have he0 : (0 : Int) ≤ (e : Int) := by omega
    by_cases hlt : e < s.size
    · have hlt' : (e : Int) < (s.size : Int) := by omega
      obtain ⟨c, hc⟩ : ∃ c, c = s[e] := ⟨_, rfl⟩
      have hc2 := hc.symm
      have hat : Veil (s.data.toList[e]'(by rw [HLN.out]; exact hlt) = c) := ⟨by rw [hc]; rfl⟩
      clear hc
      cases hl : letB c with
      | true =>
        have HLE : Veil (∀ w, Calls Tryd.prog 15 #[.int .u8 (c.toNat : Int)] w fun e w' => e = .returned (.bool true) ∧ w = w') := ⟨fun w => by have h := isLetter_any c w; rwa [hl] at h⟩
        have HDI := HLE
        have hN : Veil (Run namB s.data.toList p (e + 1)) := ⟨hR.out.next hpe (by rw [HLN.out]; exact hlt) (by rw [hat.out]; show (letB c || digB c) = true; rw [hl]; rfl)⟩
        clear hl
        go_wp2_with (first | (go_at_call 15; ((with_reducible refine (HLE.out _).mono ?_); rintro e w1 ⟨rfl, rfl⟩)) | (go_at_call 17; ((with_reducible refine (HDI.out _).mono ?_); rintro e w1 ⟨rfl, rfl⟩)))
        go_round
        case rel => exact ⟨e + 1, by omega, by omega, by go_num, hN⟩
        case measure => simp [intOf]; omega
      | false =>
        have HLE : Veil (∀ w, Calls Tryd.prog 15 #[.int .u8 (c.toNat : Int)] w fun e w' => e = .returned (.bool false) ∧ w = w') := ⟨fun w => by have h := isLetter_any c w; rwa [hl] at h⟩
        cases hd : digB c with
        | true =>
          have HDI : Veil (∀ w, Calls Tryd.prog 17 #[.int .u8 (c.toNat : Int)] w fun e w' => e = .returned (.bool true) ∧ w = w') := ⟨fun w => by have h := isDigit_any c w; rwa [hd] at h⟩
          have hN : Veil (Run namB s.data.toList p (e + 1)) := ⟨hR.out.next hpe (by rw [HLN.out]; exact hlt) (by rw [hat.out]; show (letB c || digB c) = true; rw [hl, hd]; rfl)⟩
          clear hl hd
          go_wp2_with (first | (go_at_call 15; ((with_reducible refine (HLE.out _).mono ?_); rintro e w1 ⟨rfl, rfl⟩)) | (go_at_call 17; ((with_reducible refine (HDI.out _).mono ?_); rintro e w1 ⟨rfl, rfl⟩)))
          go_round
          case rel => exact ⟨e + 1, by omega, by omega, by go_num, hN⟩
          case measure => simp [intOf]; omega
        | false =>
          have HDI : Veil (∀ w, Calls Tryd.prog 17 #[.int .u8 (c.toNat : Int)] w fun e w' => e = .returned (.bool false) ∧ w = w') := ⟨fun w => by have h := isDigit_any c w; rwa [hd] at h⟩
          have hF := Veil.mk (hR.out.fin hpe (by rw [HLN.out]; exact hes) (fun h => by rw [hat.out]; show (letB c || digB c) = false; rw [hl, hd]; rfl))
          clear hl hd
          go_upto_region 4 with (first | (go_at_call 15; ((with_reducible refine (HLE.out _).mono ?_); rintro e w1 ⟨rfl, rfl⟩)) | (go_at_call 17; ((with_reducible refine (HDI.out _).mono ?_); rintro e w1 ⟨rfl, rfl⟩)))
          obtain ⟨hF1, hF2⟩ := hF.out
          by_cases h60 : 60 < e - p
          · have h60' : (60 : Int) < (e : Int) - (p : Int) := by omega
            have hv : v = tokV p none := by
              rw [← HV.out]
              unfold nameL
              rw [if_pos (by show 60 < ((s.data.toList.drop p).takeWhile namB).length; rw [hF2]; exact h60)]
            clear hF1 hF2 hF h60
            have HVV := Veil.mk hv
            clear hv
            go_wp2
            rw [HVV.out]
            exact bodyPost_ret (v := .tuple #[.agg #[.int .i64 0, .string ⟨#[]⟩, .int .i64 0, .int .i64 0], .int .i64 (p : Int)]) (by simp [results, Tryd.results16, go_sem]) rfl ⟨rfl, (Below.refl _ _).alloc (Nat.le_refl _) _⟩
          · have h60' : ¬ (60 : Int) < (e : Int) - (p : Int) := by omega
            obtain ⟨x, hx⟩ : ∃ x, x = s.extract p e := ⟨_, rfl⟩
            have hx2 := hx.symm
            have HX : Veil (x.data.toList = (s.data.toList.drop p).take (e - p)) := ⟨by rw [hx, Lib.extract_data]⟩
            have HE : Veil (x = ⟨((s.data.toList.drop p).take (e - p)).toArray⟩) := ⟨by_inj (by rw [HX.out])⟩
            clear hx
            have hv : v = tokV p (some ⟨if wordsL.contains x.data.toList then 2 else 1, x.data.toList, 0, e - p⟩) := by
              rw [← HV.out]
              unfold nameL
              rw [if_neg (by show ¬ 60 < ((s.data.toList.drop p).takeWhile namB).length; rw [hF2]; exact h60)]
              show tokV p (some ⟨if wordsL.contains ((s.data.toList.drop p).takeWhile namB) then 2 else 1, (s.data.toList.drop p).takeWhile namB, 0, ((s.data.toList.drop p).takeWhile namB).length⟩) = _
              rw [hF2, hF1, HX.out]
            clear hF1 hF2 hF h60 HE
            have hxx : x = ⟨x.data.toList.toArray⟩ := by_inj rfl
            have hpe2 : p + (e - p) = e := by omega
            have heS : (e : Int) ≤ (s.size : Int) := by omega
            cases hb : wordsL.contains x.data.toList with
            | true =>
              rw [hb] at hv
              have HVV : Veil (v = .tuple #[.agg #[.int .i64 2, .string x, .int .i64 (p : Int), .int .i64 0], .int .i64 (e : Int)]) := ⟨hv.trans (tokV_some hxx hpe2)⟩
              have HS : Veil (∀ w, Calls Tryd.prog 24 #[.string x] w fun e w' => e = .returned (.bool true) ∧ w = w') := ⟨fun w => by have h := isWord_any x w; rwa [hb] at h⟩
              clear hv hb hxx hpe2
              go_wp2_with (first | (go_at_call 24; ((with_reducible refine (HS.out _).mono ?_); rintro e w1 ⟨rfl, rfl⟩)))
              rw [HVV.out]
              exact bodyPost_ret (v := .tuple #[.agg #[.int .i64 2, .string x, .int .i64 (p : Int), .int .i64 0], .int .i64 (e : Int)]) (by simp [results, Tryd.results16, go_sem]) rfl ⟨rfl, (Below.refl _ _).alloc (Nat.le_refl _) _⟩
            | false =>
              rw [hb] at hv
              have HVV : Veil (v = .tuple #[.agg #[.int .i64 1, .string x, .int .i64 (p : Int), .int .i64 0], .int .i64 (e : Int)]) := ⟨hv.trans (tokV_some hxx hpe2)⟩
              have HS : Veil (∀ w, Calls Tryd.prog 24 #[.string x] w fun e w' => e = .returned (.bool false) ∧ w = w') := ⟨fun w => by have h := isWord_any x w; rwa [hb] at h⟩
              clear hv hb hxx hpe2
              go_wp2_with (first | (go_at_call 24; ((with_reducible refine (HS.out _).mono ?_); rintro e w1 ⟨rfl, rfl⟩)))
              rw [HVV.out]
              exact bodyPost_ret (v := .tuple #[.agg #[.int .i64 1, .string x, .int .i64 (p : Int), .int .i64 0], .int .i64 (e : Int)]) (by simp [results, Tryd.results16, go_sem]) rfl ⟨rfl, (Below.refl _ _).alloc (Nat.le_refl _) _⟩
    · have hlt' : ¬ (e : Int) < (s.size : Int) := by omega
      have hF := Veil.mk (hR.out.fin hpe (by rw [HLN.out]; exact hes) (fun h => absurd h (by rw [HLN.out]; exact hlt)))
      go_upto_region 4 with (fail)
      obtain ⟨hF1, hF2⟩ := hF.out
      by_cases h60 : 60 < e - p
      · have h60' : (60 : Int) < (e : Int) - (p : Int) := by omega
        have hv : v = tokV p none := by
          rw [← HV.out]
          unfold nameL
          rw [if_pos (by show 60 < ((s.data.toList.drop p).takeWhile namB).length; rw [hF2]; exact h60)]
        clear hF1 hF2 hF h60
        have HVV := Veil.mk hv
        clear hv
        go_wp2
        rw [HVV.out]
        exact bodyPost_ret (v := .tuple #[.agg #[.int .i64 0, .string ⟨#[]⟩, .int .i64 0, .int .i64 0], .int .i64 (p : Int)]) (by simp [results, Tryd.results16, go_sem]) rfl ⟨rfl, (Below.refl _ _).alloc (Nat.le_refl _) _⟩
      · have h60' : ¬ (60 : Int) < (e : Int) - (p : Int) := by omega
        obtain ⟨x, hx⟩ : ∃ x, x = s.extract p e := ⟨_, rfl⟩
        have hx2 := hx.symm
        have HX : Veil (x.data.toList = (s.data.toList.drop p).take (e - p)) := ⟨by rw [hx, Lib.extract_data]⟩
        have HE : Veil (x = ⟨((s.data.toList.drop p).take (e - p)).toArray⟩) := ⟨by_inj (by rw [HX.out])⟩
        clear hx
        have hv : v = tokV p (some ⟨if wordsL.contains x.data.toList then 2 else 1, x.data.toList, 0, e - p⟩) := by
          rw [← HV.out]
          unfold nameL
          rw [if_neg (by show ¬ 60 < ((s.data.toList.drop p).takeWhile namB).length; rw [hF2]; exact h60)]
          show tokV p (some ⟨if wordsL.contains ((s.data.toList.drop p).takeWhile namB) then 2 else 1, (s.data.toList.drop p).takeWhile namB, 0, ((s.data.toList.drop p).takeWhile namB).length⟩) = _
          rw [hF2, hF1, HX.out]
        clear hF1 hF2 hF h60 HE
        have hxx : x = ⟨x.data.toList.toArray⟩ := by_inj rfl
        have hpe2 : p + (e - p) = e := by omega
        have heS : (e : Int) ≤ (s.size : Int) := by omega
        cases hb : wordsL.contains x.data.toList with
        | true =>
          rw [hb] at hv
          have HVV : Veil (v = .tuple #[.agg #[.int .i64 2, .string x, .int .i64 (p : Int), .int .i64 0], .int .i64 (e : Int)]) := ⟨hv.trans (tokV_some hxx hpe2)⟩
          have HS : Veil (∀ w, Calls Tryd.prog 24 #[.string x] w fun e w' => e = .returned (.bool true) ∧ w = w') := ⟨fun w => by have h := isWord_any x w; rwa [hb] at h⟩
          clear hv hb hxx hpe2
          go_wp2_with (first | (go_at_call 24; ((with_reducible refine (HS.out _).mono ?_); rintro e w1 ⟨rfl, rfl⟩)))
          rw [HVV.out]
          exact bodyPost_ret (v := .tuple #[.agg #[.int .i64 2, .string x, .int .i64 (p : Int), .int .i64 0], .int .i64 (e : Int)]) (by simp [results, Tryd.results16, go_sem]) rfl ⟨rfl, (Below.refl _ _).alloc (Nat.le_refl _) _⟩
        | false =>
          rw [hb] at hv
          have HVV : Veil (v = .tuple #[.agg #[.int .i64 1, .string x, .int .i64 (p : Int), .int .i64 0], .int .i64 (e : Int)]) := ⟨hv.trans (tokV_some hxx hpe2)⟩
          have HS : Veil (∀ w, Calls Tryd.prog 24 #[.string x] w fun e w' => e = .returned (.bool false) ∧ w = w') := ⟨fun w => by have h := isWord_any x w; rwa [hb] at h⟩
          clear hv hb hxx hpe2
          go_wp2_with (first | (go_at_call 24; ((with_reducible refine (HS.out _).mono ?_); rintro e w1 ⟨rfl, rfl⟩)))
          rw [HVV.out]
          exact bodyPost_ret (v := .tuple #[.agg #[.int .i64 1, .string x, .int .i64 (p : Int), .int .i64 0], .int .i64 (e : Int)]) (by simp [results, Tryd.results16, go_sem]) rfl ⟨rfl, (Below.refl _ _).alloc (Nat.le_refl _) _⟩
end Go.Proofs.YtfejompnjaifmaaDoor
