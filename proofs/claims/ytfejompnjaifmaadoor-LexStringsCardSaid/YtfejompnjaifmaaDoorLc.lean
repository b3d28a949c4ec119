/- Package lex: skipBlanks. -/
import Derived.Test.YtfejompnjaifmaaDoorLb
namespace Go.Proofs.YtfejompnjaifmaaDoor
open Go Go.RowKit

theorem get0 (r : ByteArray) (h : 0 < r.size) : r.data.toList = r[0] :: r.data.toList.drop 1 := by
  have h' : 0 < r.data.toList.length := by rw [Array.length_toList]; exact h
  have e := List.drop_eq_getElem_cons h'
  rw [List.drop_zero] at e
  exact e
/-- How far it has come from p0. -/
def SkipR (l : By) (p0 f0 p f : Nat) : Prop := skipL f0 (l.drop p0) = (p - p0 + (skipL f (l.drop p)).1, (skipL f (l.drop p)).2)
theorem SkipR.next {l : By} {p0 f0 p f k : Nat} (h : SkipR l p0 f0 p (f + 1)) (hp : p0 ≤ p) (he : skipL (f + 1) (l.drop p) = (k + (skipL f (l.drop (p + k))).1, (skipL f (l.drop (p + k))).2)) : SkipR l p0 f0 (p + k) f := by
  unfold SkipR at h ⊢
  rw [h, he, show p + k - p0 = p - p0 + k by omega, Nat.add_assoc]
theorem SkipR.fin {l : By} {p0 f0 p f k : Nat} {b : Bool} (h : SkipR l p0 f0 p f) (he : skipL f (l.drop p) = (k, b)) : skipL f0 (l.drop p0) = (p - p0 + k, b) := by
  unfold SkipR at h
  rw [h, he]
theorem ret_two {x y : Int} {a b : Bool} (h : x = y) (h2 : a = b) : Ending.returned (.tuple #[.int .i64 x, .bool a]) = Ending.returned (.tuple #[.int .i64 y, .bool b]) := by rw [h, h2]
set_option maxHeartbeats 4000000 in
set_option maxRecDepth 100000 in
theorem skip_any (s : ByteArray) (hs : s.size ≤ 20000) (p0 : Nat) (hp0 : p0 ≤ s.size) (m : Int) (w : World) (hm : w.cell? ⟨0, 0, none⟩ = some (.int .i64 m)) :
    Calls Tryd.prog 10 #[.string s, .int .i64 (p0 : Int)] w fun e w' => e = .returned (.tuple #[.int .i64 ((p0 + (skipL s.size (s.data.toList.drop p0)).1 : Nat) : Int), .bool (skipL s.size (s.data.toList.drop p0)).2]) ∧ w = w' := by
  obtain ⟨q, hq⟩ : ∃ q, skipL s.size (s.data.toList.drop p0) = q := ⟨_, rfl⟩
  rw [hq]
  have HQ := Veil.mk hq
  have HM := Veil.mk hm
  have HL : Veil (s.data.toList.length = s.size) := ⟨Array.length_toList⟩
  clear hq hm
  go_enter Tryd.func10, Tryd.ntmps10
  go_wp2
  go_loop [1] (fun i => ∃ p f : Nat, p0 ≤ p ∧ p ≤ s.size ∧ i = .int .i64 (p : Int) ∧ s.size ≤ p + f ∧ Veil (SkipR s.data.toList p0 s.size p f)) (fun i => s.size - (intOf i).toNat)
  case atStart => exact ⟨p0, s.size, Nat.le_refl _, hp0, rfl, by omega, ⟨by unfold SkipR; rw [Nat.sub_self, Nat.zero_add]⟩⟩
  case round =>
    obtain ⟨p, f, hpp, hps, rfl, hf, hR⟩ := hrel
    by_cases hlt : p < s.size
    · have hlt' : (p : Int) < (s.size : Int) := by omega
      have hp0' : (0 : Int) ≤ (p : Int) := by omega
      obtain ⟨f, rfl⟩ : ∃ g, f = g + 1 := ⟨f - 1, by omega⟩
      go_upto_region 4 with (fail)
      have hE := Veil.mk (Lib.extract_to_end s p)
      have HZ : Veil ((s.extract p s.size).size + p = s.size) := ⟨by rw [ByteArray.size_extract]; omega⟩
      generalize s.extract p s.size = r at hE HZ ⊢
      have hr0 : 0 < r.size := by have := HZ.out; omega
      have hr0' : (0 : Int) < (r.size : Int) := by omega
      have hD := Veil.mk (get0 r hr0)
      obtain ⟨c, hc⟩ : ∃ c, r[0] = c := ⟨_, rfl⟩
      have HC := Veil.mk hc
      have hl : Veil (s.data.toList.drop p = c :: r.data.toList.drop 1) := ⟨by rw [← hE.out, hD.out, hc]; rfl⟩
      clear hD
      by_cases hb : blankB c = true
      · have hb' : c.toNat = 32 ∨ c.toNat = 9 ∨ c.toNat = 10 ∨ c.toNat = 13 := of_decide_eq_true hb
        have hN : Veil (SkipR s.data.toList p0 s.size (p + 1) f) := ⟨hR.out.next hpp (by rw [← List.drop_drop, hl.out]; show (if blankB c then _ else _) = _; rw [if_pos hb]; rfl)⟩
        clear hl hR hE
        rcases hb' with h32 | h9 | h10 | h13
        · have e1 : ((c.toNat : Int) == 32) = true := beq_iff_eq.2 (by omega)
          clear h32
          go_wp2
          go_round
          case rel => exact ⟨p + 1, f, by omega, by omega, by go_num, by omega, hN⟩
          case measure => simp [intOf]; omega
        · have e1 : ((c.toNat : Int) == 32) = false := beq_eq_false_iff_ne.2 (by omega)
          have e2 : ((c.toNat : Int) == 9) = true := beq_iff_eq.2 (by omega)
          clear h9
          go_wp2
          go_round
          case rel => exact ⟨p + 1, f, by omega, by omega, by go_num, by omega, hN⟩
          case measure => simp [intOf]; omega
        · have e1 : ((c.toNat : Int) == 32) = false := beq_eq_false_iff_ne.2 (by omega)
          have e2 : ((c.toNat : Int) == 9) = false := beq_eq_false_iff_ne.2 (by omega)
          have e3 : ((c.toNat : Int) == 10) = true := beq_iff_eq.2 (by omega)
          clear h10
          go_wp2
          go_round
          case rel => exact ⟨p + 1, f, by omega, by omega, by go_num, by omega, hN⟩
          case measure => simp [intOf]; omega
        · have e1 : ((c.toNat : Int) == 32) = false := beq_eq_false_iff_ne.2 (by omega)
          have e2 : ((c.toNat : Int) == 9) = false := beq_eq_false_iff_ne.2 (by omega)
          have e3 : ((c.toNat : Int) == 10) = false := beq_eq_false_iff_ne.2 (by omega)
          have e4 : ((c.toNat : Int) == 13) = true := beq_iff_eq.2 (by omega)
          clear h13
          go_wp2
          go_round
          case rel => exact ⟨p + 1, f, by omega, by omega, by go_num, by omega, hN⟩
          case measure => simp [intOf]; omega
      · have hb' : ¬ (c.toNat = 32 ∨ c.toNat = 9 ∨ c.toNat = 10 ∨ c.toNat = 13) := fun h => hb (decide_eq_true h)
        have e1 : ((c.toNat : Int) == 32) = false := beq_eq_false_iff_ne.2 (by omega)
        have e2 : ((c.toNat : Int) == 9) = false := beq_eq_false_iff_ne.2 (by omega)
        have e3 : ((c.toNat : Int) == 10) = false := beq_eq_false_iff_ne.2 (by omega)
        have e4 : ((c.toNat : Int) == 13) = false := beq_eq_false_iff_ne.2 (by omega)
        have hrl : c :: r.data.toList.drop 1 = r.data.toList := by rw [← hl.out, hE.out]
        have HLN : Veil (r.data.toList.length = r.size) := ⟨Array.length_toList⟩
        -- what the model says here
        have hS : skipL (f + 1) (s.data.toList.drop p) = (if Lib.hasPrefix r.data.toList [47, 47] then
            if Lib.indexByte r.data.toList 10 < 0 then (r.data.toList.length, true)
            else ((Lib.indexByte r.data.toList 10).toNat + 1 + (skipL f (r.data.toList.drop ((Lib.indexByte r.data.toList 10).toNat + 1))).1, (skipL f (r.data.toList.drop ((Lib.indexByte r.data.toList 10).toNat + 1))).2)
          else if Lib.hasPrefix r.data.toList [47, 42] then
            if Lib.index (r.data.toList.drop 2) [42, 47] < 0 then (0, false)
            else ((Lib.index (r.data.toList.drop 2) [42, 47]).toNat + 4 + (skipL f (r.data.toList.drop ((Lib.index (r.data.toList.drop 2) [42, 47]).toNat + 4))).1, (skipL f (r.data.toList.drop ((Lib.index (r.data.toList.drop 2) [42, 47]).toNat + 4))).2)
          else (0, true)) := by
          rw [hl.out]
          show (if blankB c then _ else _) = _
          rw [if_neg hb, hrl]
        have hdd : ∀ k, r.data.toList.drop k = s.data.toList.drop (p + k) := fun k => by rw [hE.out, List.drop_drop]
        have HP1 : Veil (∀ w, Calls Tryd.prog 12 #[.string r, .string ⟨#[47, 47]⟩] w fun e w' => e = .returned (.bool (Lib.hasPrefix r.data.toList [47, 47])) ∧ w' = w) := ⟨fun w => Tryd.strings_HasPrefix r ⟨#[47, 47]⟩ w⟩
        have HP2 : Veil (∀ w, Calls Tryd.prog 12 #[.string r, .string ⟨#[47, 42]⟩] w fun e w' => e = .returned (.bool (Lib.hasPrefix r.data.toList [47, 42])) ∧ w' = w) := ⟨fun w => Tryd.strings_HasPrefix r ⟨#[47, 42]⟩ w⟩
        have HI : Veil (∀ w, Calls Tryd.prog 13 #[.string r, .int .u8 10] w fun e w' => e = .returned (.int .i64 (Lib.indexByte r.data.toList 10)) ∧ w' = w) := ⟨fun w => Tryd.strings_IndexByte r 10 w⟩
        clear hb hb' hl hrl
        by_cases g1 : Lib.hasPrefix r.data.toList [47, 47] = true
        · rw [if_pos g1] at hS
          rw [g1] at HP1
          have hlt9 := indexByte_lt r.data.toList 10
          have hge9 := Lib.indexByte_ge r.data.toList 10
          obtain ⟨n, hn⟩ : ∃ n, Lib.indexByte r.data.toList 10 = n := ⟨_, rfl⟩
          rw [hn] at hS HI hlt9 hge9
          by_cases g3 : n < 0
          · rw [if_pos g3] at hS
            have HF := Veil.mk (hR.out.fin hS)
            clear hn hS hR hdd g1 hlt9 hge9 hE HP2
            go_wp2_with (first | (go_at_call 12; ((with_reducible refine (HP1.out _).mono ?_); rintro e w1 ⟨rfl, rfl⟩)) | (go_at_call 13; ((with_reducible refine (HI.out _).mono ?_); rintro e w2 ⟨rfl, rfl⟩)))
            go_ret2
            have hqq := HQ.out.symm.trans HF.out
            exact ⟨by rw [hqq]; exact ret_two (by have h1 := HZ.out; have h2 := HLN.out; show (s.size : Int) = ((p0 + (p - p0 + r.data.toList.length) : Nat) : Int); omega) rfl, rfl⟩
          · rw [if_neg g3] at hS
            have hnl : n + (p : Int) < (s.size : Int) := by
              have h1 := HZ.out
              have h2 := HLN.out
              rcases hlt9 with h | ⟨h, _⟩
              · omega
              · omega
            obtain ⟨k, rfl⟩ := Int.eq_ofNat_of_zero_le (Int.not_lt.1 g3)
            have hN : Veil (SkipR s.data.toList p0 s.size (p + (k + 1)) f) := ⟨hR.out.next hpp (by rw [hS, hdd]; rfl)⟩
            have g3' : ¬ (k : Int) < 0 := by omega
            clear hn hS hR hdd g1 hlt9 hge9 hE HP2 g3
            go_wp2_with (first | (go_at_call 12; ((with_reducible refine (HP1.out _).mono ?_); rintro e w1 ⟨rfl, rfl⟩)) | (go_at_call 13; ((with_reducible refine (HI.out _).mono ?_); rintro e w2 ⟨rfl, rfl⟩)))
            go_round
            case rel => exact ⟨p + (k + 1), f, by omega, by omega, by go_num, by omega, hN⟩
            case measure => simp [intOf]; omega
        · have g1' : Lib.hasPrefix r.data.toList [47, 47] = false := by simpa using g1
          rw [if_neg g1] at hS
          rw [g1'] at HP1
          by_cases g2 : Lib.hasPrefix r.data.toList [47, 42] = true
          · rw [if_pos g2] at hS
            rw [g2] at HP2
            have h2 : 2 ≤ r.size := by
              have h := List.IsPrefix.length_le (List.isPrefixOf_iff_prefix.1 (show [47, 42].isPrefixOf r.data.toList = true from g2))
              rw [HLN.out] at h
              exact h
            have h2' : (2 : Int) ≤ (r.size : Int) := by omega
            have hlt9 := index_lt (r.data.toList.drop 2) [42, 47] (by simp)
            have hge9 := Lib.index_ge (r.data.toList.drop 2) [42, 47]
            rw [List.length_drop, HLN.out] at hlt9
            have HX : Veil (∀ w0 : World, w0 = w → Calls Tryd.prog 14 #[.string (r.extract 2 r.size), .string ⟨#[42, 47]⟩] w0 fun e w' => e = .returned (.int .i64 (Lib.index (r.data.toList.drop 2) [42, 47])) ∧ w' = w0) := ⟨fun w0 hw0 => by
              have h := Tryd.strings_Index (r.extract 2 r.size) ⟨#[42, 47]⟩ m w0 (by have h1 := HZ.out; rw [ByteArray.size_extract]; omega) (by rw [hw0]; exact HM.out)
              rw [Lib.extract_to_end] at h
              exact h⟩
            obtain ⟨n, hn⟩ : ∃ n, Lib.index (r.data.toList.drop 2) [42, 47] = n := ⟨_, rfl⟩
            rw [hn] at hS HX hlt9 hge9
            by_cases g3 : n < 0
            · rw [if_pos g3] at hS
              have HF := Veil.mk (hR.out.fin hS)
              clear hn hS hR hdd g1 g1' g2 hlt9 hge9 hE HI
              go_wp2_with (first | (go_at_call 12; first | ((with_reducible refine (HP1.out _).mono ?_); rintro e w1 ⟨rfl, rfl⟩) | ((with_reducible refine (HP2.out _).mono ?_); rintro e w1 ⟨rfl, rfl⟩)) | (go_at_call 14; ((with_reducible refine (HX.out _ rfl).mono ?_); rintro e w2 ⟨rfl, rfl⟩)))
              go_ret2
              have hqq := HQ.out.symm.trans HF.out
              exact ⟨by rw [hqq]; exact ret_two (by show (p : Int) = ((p0 + (p - p0 + 0) : Nat) : Int); omega) rfl, rfl⟩
            · rw [if_neg g3] at hS
              obtain ⟨k, rfl⟩ := Int.eq_ofNat_of_zero_le (Int.not_lt.1 g3)
              have hnl := hlt9 (by omega)
              simp only [List.length_cons, List.length_nil] at hnl
              have hnp : (k : Int) + 4 + (p : Int) ≤ (s.size : Int) := by have h1 := HZ.out; omega
              have hN : Veil (SkipR s.data.toList p0 s.size (p + (k + 4)) f) := ⟨hR.out.next hpp (by rw [hS, hdd]; rfl)⟩
              have g3' : ¬ (k : Int) < 0 := by omega
              clear hn hS hR hdd g1 g1' g2 hlt9 hge9 hE HI g3
              go_wp2_with (first | (go_at_call 12; first | ((with_reducible refine (HP1.out _).mono ?_); rintro e w1 ⟨rfl, rfl⟩) | ((with_reducible refine (HP2.out _).mono ?_); rintro e w1 ⟨rfl, rfl⟩)) | (go_at_call 14; ((with_reducible refine (HX.out _ rfl).mono ?_); rintro e w2 ⟨rfl, rfl⟩)))
              go_round
              case rel => exact ⟨p + (k + 4), f, by omega, by omega, by go_num, by omega, hN⟩
              case measure => simp [intOf]; omega
          · have g2' : Lib.hasPrefix r.data.toList [47, 42] = false := by simpa using g2
            rw [if_neg g2] at hS
            rw [g2'] at HP2
            have HF := Veil.mk (hR.out.fin hS)
            clear hS hR hdd g1 g1' g2 g2' hE HI
            go_wp2_with (first | (go_at_call 12; first | ((with_reducible refine (HP1.out _).mono ?_); rintro e w1 ⟨rfl, rfl⟩) | ((with_reducible refine (HP2.out _).mono ?_); rintro e w1 ⟨rfl, rfl⟩)))
            go_ret2
            have hqq := HQ.out.symm.trans HF.out
            exact ⟨by rw [hqq]; exact ret_two (by show (p : Int) = ((p0 + (p - p0 + 0) : Nat) : Int); omega) rfl, rfl⟩
    · have hlt' : ¬ (p : Int) < (s.size : Int) := by omega
      have hE : s.data.toList.drop p = [] := List.drop_eq_nil_of_le (by rw [HL.out]; omega)
      have HF : Veil (skipL s.size (s.data.toList.drop p0) = (p - p0 + 0, true)) := ⟨hR.out.fin (by rw [hE]; exact skip_nil f)⟩
      clear hE hR
      go_wp2
      go_ret2
      have hqq := HQ.out.symm.trans HF.out
      exact ⟨by rw [hqq]; exact ret_two (by show (p : Int) = ((p0 + (p - p0 + 0) : Nat) : Int); omega) rfl, rfl⟩
end Go.Proofs.YtfejompnjaifmaaDoor
