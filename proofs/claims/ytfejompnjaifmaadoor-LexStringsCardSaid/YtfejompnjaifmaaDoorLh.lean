/- Package lex: next. -/
import Derived.Test.YtfejompnjaifmaaDoorLg
namespace Go.Proofs.YtfejompnjaifmaaDoor
open Go Go.RowKit

theorem tokV_parts (p : Nat) (o : Option Tk) : ∃ (k : Int) (x : ByteArray) (q n e : Int), tokV p o = .tuple #[.agg #[.int .i64 k, .string x, .int .i64 q, .int .i64 n], .int .i64 e] := by
  cases o with
  | none => exact ⟨_, _, _, _, _, rfl⟩
  | some t => exact ⟨_, _, _, _, _, rfl⟩
/-- quoted's contract. -/
def QuoteC (of : By → By) (s : ByteArray) : Prop := ∀ (p : Nat) (hp : p < s.size), (s[p].toNat = 34 ∨ s[p].toNat = 39) → ∀ w, Gl w →
  Calls Tryd.prog 19 #[.string s, .int .i64 (p : Int)] w (BelPost w (tokV p ((quotL of s[p] ((s.data.toList.drop (p + 1)).length + 1) (s.data.toList.drop (p + 1)) [] [] 1).map fun p => ⟨4, p.1, 0, p.2⟩)))
set_option maxHeartbeats 4000000 in
set_option maxRecDepth 100000 in
theorem next_any (of : By → By) (s : ByteArray) (hs : s.size ≤ 20000) (hQ : QuoteC of s) (p : Nat) (hp : p < s.size) (w : World) (hG : Gl w) :
    Calls Tryd.prog 11 #[.string s, .int .i64 (p : Int)] w (BelPost w (tokV p (nextL of (s.data.toList.drop p)))) := by
  obtain ⟨v, hv⟩ : ∃ v, tokV p (nextL of (s.data.toList.drop p)) = v := ⟨_, rfl⟩
  rw [hv]
  obtain ⟨k, x, q, n, e, hvv⟩ := tokV_parts p (nextL of (s.data.toList.drop p))
  rw [hv] at hvv
  have HVV := Veil.mk hvv
  have HV := Veil.mk hv
  have HG0 := Veil.mk hG
  have HQ := Veil.mk hQ
  have hlt' : (p : Int) < (s.size : Int) := by omega
  have hp0 : (0 : Int) ≤ (p : Int) := by omega
  obtain ⟨c, hc⟩ : ∃ c, c = s[p] := ⟨_, rfl⟩
  have hc2 := hc.symm
  have HC := Veil.mk hc2
  have hdr : s.data.toList.drop p = c :: s.data.toList.drop (p + 1) := by rw [List.drop_eq_getElem_cons (by rw [Array.length_toList]; exact hp), hc]; rfl
  have HDR := Veil.mk hdr
  clear hv hvv hG hQ hc hdr
  have l0 : Below w.heap.size w (w.alloc (.cells #[.int .i64 0, .string ⟨#[]⟩, .int .i64 0, .int .i64 0] 31)) := (Below.refl _ _).alloc (Nat.le_refl _) _
  have b0 : Box (w.alloc (.cells #[.int .i64 0, .string ⟨#[]⟩, .int .i64 0, .int .i64 0] 31)) w.heap.size 31 #[.int .i64 0, .string ⟨#[]⟩, .int .i64 0, .int .i64 0] := Box.new w _ _
  have HG := Veil.mk (HG0.out.on l0)
  go_enter Tryd.func11, Tryd.ntmps11
  go_upto_region 1 with (fail)
  obtain ⟨g, hg⟩ : ∃ g, w.heap.size = g := ⟨_, rfl⟩
  have HGG := Veil.mk hg
  try rw [hg]
  generalize w.alloc (.cells #[.int .i64 0, .string ⟨#[]⟩, .int .i64 0, .int .i64 0] 31) = W0 at l0 b0 HG ⊢
  go_upto_region 2 with (fail)
  cases hl : letB c with
  | true =>
    have hnx : Veil (nextL of (s.data.toList.drop p) = nameL (s.data.toList.drop p)) := ⟨by rw [HDR.out]; unfold nextL; exact if_pos hl⟩
    have HLE : Veil (∀ w, Calls Tryd.prog 15 #[.int .u8 (c.toNat : Int)] w fun e w' => e = .returned (.bool true) ∧ w = w') := ⟨fun w => by have h := isLetter_any c w; rwa [hl] at h⟩
    have HS : Veil (∀ w, Gl w → Calls Tryd.prog 16 #[.string s, .int .i64 (p : Int)] w (BelPost w (.tuple #[.agg #[.int .i64 k, .string x, .int .i64 q, .int .i64 n], .int .i64 e]))) := ⟨fun w hg => by
      rw [← HVV.out, ← HV.out, hnx.out]
      exact name_any s hs p hp w⟩
    clear hl
    go_wp2_with (first | (go_at_call 16; ((with_reducible refine (HS.out _ HG.out).mono ?_); rintro e9 w2 ⟨rfl, hb2⟩; have bT := b0.on hb2 b0.lt; rw [hg] at bT; have t0 : w2.cell? ⟨g, 0, none⟩ = some (.int .i64 0) := bT.at_ 0; have t1 : w2.cell? ⟨g, 1, none⟩ = some (.string ⟨#[]⟩) := bT.at_ 1; have t2 : w2.cell? ⟨g, 2, none⟩ = some (.int .i64 0) := bT.at_ 2; have t3 : w2.cell? ⟨g, 3, none⟩ = some (.int .i64 0) := bT.at_ 3; have f0 := bT.free 0; have f1 := bT.free 1; have f2 := bT.free 2; have f3 := bT.free 3; have HBB := Veil.mk (l0.trans (hb2.mono l0.size)); have HBT := Veil.mk bT; clear hb2 bT)) | (go_at_call 15; ((with_reducible refine (HLE.out _).mono ?_); rintro e w1 ⟨rfl, rfl⟩)))
    obtain ⟨hz1, hz2⟩ := fill4 HBT.out (.int .i64 k) (.string x) (.int .i64 q) (.int .i64 n) HBB.out (by have := HGG.out; omega)
    generalize (((w2.setCell ⟨g, 0, none⟩ (.int .i64 k)).setCell ⟨g, 1, none⟩ (.string x)).setCell ⟨g, 2, none⟩ (.int .i64 q)).setCell ⟨g, 3, none⟩ (.int .i64 n) = W9 at hz1 hz2 ⊢
    have q0 : W9.cell? ⟨g, 0, none⟩ = some (.int .i64 k) := hz1.at_ 0
    have q1 : W9.cell? ⟨g, 1, none⟩ = some (.string x) := hz1.at_ 1
    have q2 : W9.cell? ⟨g, 2, none⟩ = some (.int .i64 q) := hz1.at_ 2
    have q3 : W9.cell? ⟨g, 3, none⟩ = some (.int .i64 n) := hz1.at_ 3
    rw [HVV.out]
    exact bodyPost_ret (v := .tuple #[.agg #[.int .i64 k, .string x, .int .i64 q, .int .i64 n], .int .i64 e]) (by simp [results, Tryd.results11, go_sem, q0, q1, q2, q3]) rfl ⟨rfl, hz2⟩
  | false =>
    have HLE : Veil (∀ w, Calls Tryd.prog 15 #[.int .u8 (c.toNat : Int)] w fun e w' => e = .returned (.bool false) ∧ w = w') := ⟨fun w => by have h := isLetter_any c w; rwa [hl] at h⟩
    cases hd : digB c with
    | true =>
      have hnx : Veil (nextL of (s.data.toList.drop p) = numL (s.data.toList.drop p)) := ⟨by rw [HDR.out]; unfold nextL; exact (if_neg (by rw [hl]; exact Bool.false_ne_true)).trans (if_pos hd)⟩
      have HDI : Veil (∀ w, Calls Tryd.prog 17 #[.int .u8 (c.toNat : Int)] w fun e w' => e = .returned (.bool true) ∧ w = w') := ⟨fun w => by have h := isDigit_any c w; rwa [hd] at h⟩
      have HS : Veil (∀ w, Gl w → Calls Tryd.prog 18 #[.string s, .int .i64 (p : Int)] w (BelPost w (.tuple #[.agg #[.int .i64 k, .string x, .int .i64 q, .int .i64 n], .int .i64 e]))) := ⟨fun w hg => by
        rw [← HVV.out, ← HV.out, hnx.out]
        exact number_any s hs p hp (by rw [HC.out]; exact hd) w hg⟩
      clear hl hd
      go_wp2_with (first | (go_at_call 18; ((with_reducible refine (HS.out _ HG.out).mono ?_); rintro e9 w2 ⟨rfl, hb2⟩; have bT := b0.on hb2 b0.lt; rw [hg] at bT; have t0 : w2.cell? ⟨g, 0, none⟩ = some (.int .i64 0) := bT.at_ 0; have t1 : w2.cell? ⟨g, 1, none⟩ = some (.string ⟨#[]⟩) := bT.at_ 1; have t2 : w2.cell? ⟨g, 2, none⟩ = some (.int .i64 0) := bT.at_ 2; have t3 : w2.cell? ⟨g, 3, none⟩ = some (.int .i64 0) := bT.at_ 3; have f0 := bT.free 0; have f1 := bT.free 1; have f2 := bT.free 2; have f3 := bT.free 3; have HBB := Veil.mk (l0.trans (hb2.mono l0.size)); have HBT := Veil.mk bT; clear hb2 bT)) | (go_at_call 15; ((with_reducible refine (HLE.out _).mono ?_); rintro e w1 ⟨rfl, rfl⟩)) | (go_at_call 17; ((with_reducible refine (HDI.out _).mono ?_); rintro e w1 ⟨rfl, rfl⟩)))
      obtain ⟨hz1, hz2⟩ := fill4 HBT.out (.int .i64 k) (.string x) (.int .i64 q) (.int .i64 n) HBB.out (by have := HGG.out; omega)
      generalize (((w2.setCell ⟨g, 0, none⟩ (.int .i64 k)).setCell ⟨g, 1, none⟩ (.string x)).setCell ⟨g, 2, none⟩ (.int .i64 q)).setCell ⟨g, 3, none⟩ (.int .i64 n) = W9 at hz1 hz2 ⊢
      have q0 : W9.cell? ⟨g, 0, none⟩ = some (.int .i64 k) := hz1.at_ 0
      have q1 : W9.cell? ⟨g, 1, none⟩ = some (.string x) := hz1.at_ 1
      have q2 : W9.cell? ⟨g, 2, none⟩ = some (.int .i64 q) := hz1.at_ 2
      have q3 : W9.cell? ⟨g, 3, none⟩ = some (.int .i64 n) := hz1.at_ 3
      rw [HVV.out]
      exact bodyPost_ret (v := .tuple #[.agg #[.int .i64 k, .string x, .int .i64 q, .int .i64 n], .int .i64 e]) (by simp [results, Tryd.results11, go_sem, q0, q1, q2, q3]) rfl ⟨rfl, hz2⟩
    | false =>
      have HDI : Veil (∀ w, Calls Tryd.prog 17 #[.int .u8 (c.toNat : Int)] w fun e w' => e = .returned (.bool false) ∧ w = w') := ⟨fun w => by have h := isDigit_any c w; rwa [hd] at h⟩
      by_cases h34 : c.toNat = 34
      · have h34' : ((c.toNat : Int) == 34) = true := beq_iff_eq.2 (by omega)
        have hnx : Veil (nextL of (s.data.toList.drop p) = (quotL of c ((s.data.toList.drop (p + 1)).length + 1) (s.data.toList.drop (p + 1)) [] [] 1).map fun p => ⟨4, p.1, 0, p.2⟩) := ⟨by rw [HDR.out]; unfold nextL; exact ((if_neg (by rw [hl]; exact Bool.false_ne_true)).trans (if_neg (by rw [hd]; exact Bool.false_ne_true))).trans (if_pos (.inl (UInt8.toNat_inj.1 h34)))⟩
        have HS : Veil (∀ w, Gl w → Calls Tryd.prog 19 #[.string s, .int .i64 (p : Int)] w (BelPost w (.tuple #[.agg #[.int .i64 k, .string x, .int .i64 q, .int .i64 n], .int .i64 e]))) := ⟨fun w hg => by
          rw [← HVV.out, ← HV.out, hnx.out]
          exact by rw [← HC.out]; exact HQ.out p hp (by rw [HC.out]; exact .inl h34) w hg⟩
        clear hl hd h34
        go_wp2_with (first | (go_at_call 19; ((with_reducible refine (HS.out _ HG.out).mono ?_); rintro e9 w2 ⟨rfl, hb2⟩; have bT := b0.on hb2 b0.lt; rw [hg] at bT; have t0 : w2.cell? ⟨g, 0, none⟩ = some (.int .i64 0) := bT.at_ 0; have t1 : w2.cell? ⟨g, 1, none⟩ = some (.string ⟨#[]⟩) := bT.at_ 1; have t2 : w2.cell? ⟨g, 2, none⟩ = some (.int .i64 0) := bT.at_ 2; have t3 : w2.cell? ⟨g, 3, none⟩ = some (.int .i64 0) := bT.at_ 3; have f0 := bT.free 0; have f1 := bT.free 1; have f2 := bT.free 2; have f3 := bT.free 3; have HBB := Veil.mk (l0.trans (hb2.mono l0.size)); have HBT := Veil.mk bT; clear hb2 bT)) | (go_at_call 15; ((with_reducible refine (HLE.out _).mono ?_); rintro e w1 ⟨rfl, rfl⟩)) | (go_at_call 17; ((with_reducible refine (HDI.out _).mono ?_); rintro e w1 ⟨rfl, rfl⟩)))
        obtain ⟨hz1, hz2⟩ := fill4 HBT.out (.int .i64 k) (.string x) (.int .i64 q) (.int .i64 n) HBB.out (by have := HGG.out; omega)
        generalize (((w2.setCell ⟨g, 0, none⟩ (.int .i64 k)).setCell ⟨g, 1, none⟩ (.string x)).setCell ⟨g, 2, none⟩ (.int .i64 q)).setCell ⟨g, 3, none⟩ (.int .i64 n) = W9 at hz1 hz2 ⊢
        have q0 : W9.cell? ⟨g, 0, none⟩ = some (.int .i64 k) := hz1.at_ 0
        have q1 : W9.cell? ⟨g, 1, none⟩ = some (.string x) := hz1.at_ 1
        have q2 : W9.cell? ⟨g, 2, none⟩ = some (.int .i64 q) := hz1.at_ 2
        have q3 : W9.cell? ⟨g, 3, none⟩ = some (.int .i64 n) := hz1.at_ 3
        rw [HVV.out]
        exact bodyPost_ret (v := .tuple #[.agg #[.int .i64 k, .string x, .int .i64 q, .int .i64 n], .int .i64 e]) (by simp [results, Tryd.results11, go_sem, q0, q1, q2, q3]) rfl ⟨rfl, hz2⟩
      · have h34' : ((c.toNat : Int) == 34) = false := beq_eq_false_iff_ne.2 (by omega)
        by_cases h39 : c.toNat = 39
        · have h39' : ((c.toNat : Int) == 39) = true := beq_iff_eq.2 (by omega)
          have hnx : Veil (nextL of (s.data.toList.drop p) = (quotL of c ((s.data.toList.drop (p + 1)).length + 1) (s.data.toList.drop (p + 1)) [] [] 1).map fun p => ⟨4, p.1, 0, p.2⟩) := ⟨by rw [HDR.out]; unfold nextL; exact ((if_neg (by rw [hl]; exact Bool.false_ne_true)).trans (if_neg (by rw [hd]; exact Bool.false_ne_true))).trans (if_pos (.inr (UInt8.toNat_inj.1 h39)))⟩
          have HS : Veil (∀ w, Gl w → Calls Tryd.prog 19 #[.string s, .int .i64 (p : Int)] w (BelPost w (.tuple #[.agg #[.int .i64 k, .string x, .int .i64 q, .int .i64 n], .int .i64 e]))) := ⟨fun w hg => by
            rw [← HVV.out, ← HV.out, hnx.out]
            exact by rw [← HC.out]; exact HQ.out p hp (by rw [HC.out]; exact .inr h39) w hg⟩
          clear hl hd h34 h39
          go_wp2_with (first | (go_at_call 19; ((with_reducible refine (HS.out _ HG.out).mono ?_); rintro e9 w2 ⟨rfl, hb2⟩; have bT := b0.on hb2 b0.lt; rw [hg] at bT; have t0 : w2.cell? ⟨g, 0, none⟩ = some (.int .i64 0) := bT.at_ 0; have t1 : w2.cell? ⟨g, 1, none⟩ = some (.string ⟨#[]⟩) := bT.at_ 1; have t2 : w2.cell? ⟨g, 2, none⟩ = some (.int .i64 0) := bT.at_ 2; have t3 : w2.cell? ⟨g, 3, none⟩ = some (.int .i64 0) := bT.at_ 3; have f0 := bT.free 0; have f1 := bT.free 1; have f2 := bT.free 2; have f3 := bT.free 3; have HBB := Veil.mk (l0.trans (hb2.mono l0.size)); have HBT := Veil.mk bT; clear hb2 bT)) | (go_at_call 15; ((with_reducible refine (HLE.out _).mono ?_); rintro e w1 ⟨rfl, rfl⟩)) | (go_at_call 17; ((with_reducible refine (HDI.out _).mono ?_); rintro e w1 ⟨rfl, rfl⟩)))
          obtain ⟨hz1, hz2⟩ := fill4 HBT.out (.int .i64 k) (.string x) (.int .i64 q) (.int .i64 n) HBB.out (by have := HGG.out; omega)
          generalize (((w2.setCell ⟨g, 0, none⟩ (.int .i64 k)).setCell ⟨g, 1, none⟩ (.string x)).setCell ⟨g, 2, none⟩ (.int .i64 q)).setCell ⟨g, 3, none⟩ (.int .i64 n) = W9 at hz1 hz2 ⊢
          have q0 : W9.cell? ⟨g, 0, none⟩ = some (.int .i64 k) := hz1.at_ 0
          have q1 : W9.cell? ⟨g, 1, none⟩ = some (.string x) := hz1.at_ 1
          have q2 : W9.cell? ⟨g, 2, none⟩ = some (.int .i64 q) := hz1.at_ 2
          have q3 : W9.cell? ⟨g, 3, none⟩ = some (.int .i64 n) := hz1.at_ 3
          rw [HVV.out]
          exact bodyPost_ret (v := .tuple #[.agg #[.int .i64 k, .string x, .int .i64 q, .int .i64 n], .int .i64 e]) (by simp [results, Tryd.results11, go_sem, q0, q1, q2, q3]) rfl ⟨rfl, hz2⟩
        · have h39' : ((c.toNat : Int) == 39) = false := beq_eq_false_iff_ne.2 (by omega)
          have hnx : Veil (nextL of (s.data.toList.drop p) = signL (s.data.toList.drop p)) := ⟨by rw [HDR.out]; unfold nextL; exact ((if_neg (by rw [hl]; exact Bool.false_ne_true)).trans (if_neg (by rw [hd]; exact Bool.false_ne_true))).trans (if_neg (by rintro (rfl | rfl); exact h34 rfl; exact h39 rfl))⟩
          have HS : Veil (∀ w, Gl w → Calls Tryd.prog 20 #[.string s, .int .i64 (p : Int)] w (BelPost w (.tuple #[.agg #[.int .i64 k, .string x, .int .i64 q, .int .i64 n], .int .i64 e]))) := ⟨fun w hg => by
            rw [← HVV.out, ← HV.out, hnx.out]
            exact sign_any s hs p hp w⟩
          clear hl hd h34 h39
          go_wp2_with (first | (go_at_call 20; ((with_reducible refine (HS.out _ HG.out).mono ?_); rintro e9 w2 ⟨rfl, hb2⟩; have bT := b0.on hb2 b0.lt; rw [hg] at bT; have t0 : w2.cell? ⟨g, 0, none⟩ = some (.int .i64 0) := bT.at_ 0; have t1 : w2.cell? ⟨g, 1, none⟩ = some (.string ⟨#[]⟩) := bT.at_ 1; have t2 : w2.cell? ⟨g, 2, none⟩ = some (.int .i64 0) := bT.at_ 2; have t3 : w2.cell? ⟨g, 3, none⟩ = some (.int .i64 0) := bT.at_ 3; have f0 := bT.free 0; have f1 := bT.free 1; have f2 := bT.free 2; have f3 := bT.free 3; have HBB := Veil.mk (l0.trans (hb2.mono l0.size)); have HBT := Veil.mk bT; clear hb2 bT)) | (go_at_call 15; ((with_reducible refine (HLE.out _).mono ?_); rintro e w1 ⟨rfl, rfl⟩)) | (go_at_call 17; ((with_reducible refine (HDI.out _).mono ?_); rintro e w1 ⟨rfl, rfl⟩)))
          obtain ⟨hz1, hz2⟩ := fill4 HBT.out (.int .i64 k) (.string x) (.int .i64 q) (.int .i64 n) HBB.out (by have := HGG.out; omega)
          generalize (((w2.setCell ⟨g, 0, none⟩ (.int .i64 k)).setCell ⟨g, 1, none⟩ (.string x)).setCell ⟨g, 2, none⟩ (.int .i64 q)).setCell ⟨g, 3, none⟩ (.int .i64 n) = W9 at hz1 hz2 ⊢
          have q0 : W9.cell? ⟨g, 0, none⟩ = some (.int .i64 k) := hz1.at_ 0
          have q1 : W9.cell? ⟨g, 1, none⟩ = some (.string x) := hz1.at_ 1
          have q2 : W9.cell? ⟨g, 2, none⟩ = some (.int .i64 q) := hz1.at_ 2
          have q3 : W9.cell? ⟨g, 3, none⟩ = some (.int .i64 n) := hz1.at_ 3
          rw [HVV.out]
          exact bodyPost_ret (v := .tuple #[.agg #[.int .i64 k, .string x, .int .i64 q, .int .i64 n], .int .i64 e]) (by simp [results, Tryd.results11, go_sem, q0, q1, q2, q3]) rfl ⟨rfl, hz2⟩
end Go.Proofs.YtfejompnjaifmaaDoor
