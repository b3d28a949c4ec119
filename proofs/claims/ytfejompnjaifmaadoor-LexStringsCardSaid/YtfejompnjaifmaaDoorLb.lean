/- Package lex: letters, digits, blanks. -/
import Derived.Test.YtfejompnjaifmaaDoorLa
import Derived.Test.YtfejompnjaifmaaDoorFa
import Derived.Test.YtfejompnjaifmaaDoorShelf
import Derived.WalkKit
import Derived.WalkSpells
import Derived.WalkLawsBesides
import Derived.Below
import Derived.IntWalk
import Derived.LoopTactic
import Derived.Lib.Hide
import Derived.Lib.IndexBytes
import Derived.Deep.CutBlock
namespace Go.Proofs.YtfejompnjaifmaaDoor
open Go Go.RowKit

set_option maxHeartbeats 1000000 in
theorem isDigit_any (c : UInt8) (w : World) : Calls Tryd.prog 17 #[.int .u8 (c.toNat : Int)] w fun e w' => e = .returned (.bool (digB c)) ∧ w = w' := by
  obtain ⟨r, hr⟩ : ∃ r, digB c = r := ⟨_, rfl⟩
  rw [hr]
  have HR := Veil.mk hr
  clear hr
  by_cases h1 : (48 : Int) ≤ (c.toNat : Int)
  · by_cases h2 : (c.toNat : Int) ≤ 57
    · go_enter Tryd.func17, Tryd.ntmps17
      go_wp2
      go_ret
      exact ⟨ret_bool (by rw [← HR.out]; exact (decide_eq_true (by omega)).symm), rfl⟩
    · go_enter Tryd.func17, Tryd.ntmps17
      go_wp2
      go_ret
      exact ⟨ret_bool (by rw [← HR.out]; exact (decide_eq_false (by omega)).symm), rfl⟩
  · go_enter Tryd.func17, Tryd.ntmps17
    go_wp2
    go_ret
    exact ⟨ret_bool (by rw [← HR.out]; exact (decide_eq_false (by omega)).symm), rfl⟩
set_option maxHeartbeats 4000000 in
theorem isLetter_any (c : UInt8) (w : World) : Calls Tryd.prog 15 #[.int .u8 (c.toNat : Int)] w fun e w' => e = .returned (.bool (letB c)) ∧ w = w' := by
  obtain ⟨r, hr⟩ : ∃ r, letB c = r := ⟨_, rfl⟩
  rw [hr]
  have HR := Veil.mk hr
  clear hr
  by_cases h1 : (97 : Int) ≤ (c.toNat : Int)
  · by_cases h2 : (c.toNat : Int) ≤ 122
    · go_enter Tryd.func15, Tryd.ntmps15
      go_wp2
      go_ret
      exact ⟨ret_bool (by rw [← HR.out]; exact (decide_eq_true (by omega)).symm), rfl⟩
    · have h3 : (65 : Int) ≤ (c.toNat : Int) := by omega
      have h4 : ¬ (c.toNat : Int) ≤ 90 := by omega
      have h5 : ((c.toNat : Int) == 95) = false := beq_eq_false_iff_ne.2 (by omega)
      have h6 : ((c.toNat : Int) == 36) = false := beq_eq_false_iff_ne.2 (by omega)
      go_enter Tryd.func15, Tryd.ntmps15
      go_wp2
      go_ret
      exact ⟨ret_bool (by rw [← HR.out]; exact (decide_eq_false (by omega)).symm), rfl⟩
  · by_cases h3 : (65 : Int) ≤ (c.toNat : Int)
    · by_cases h4 : (c.toNat : Int) ≤ 90
      · go_enter Tryd.func15, Tryd.ntmps15
        go_wp2
        go_ret
        exact ⟨ret_bool (by rw [← HR.out]; exact (decide_eq_true (by omega)).symm), rfl⟩
      · have h6 : ((c.toNat : Int) == 36) = false := beq_eq_false_iff_ne.2 (by omega)
        by_cases h7 : (c.toNat : Int) = 95
        · have h5 : ((c.toNat : Int) == 95) = true := beq_iff_eq.2 h7
          have H7 := Veil.mk h7
          clear h7
          go_enter Tryd.func15, Tryd.ntmps15
          go_wp2
          go_ret
          exact ⟨ret_bool (by rw [← HR.out]; have := H7.out; exact (decide_eq_true (by omega)).symm), rfl⟩
        · have h5 : ((c.toNat : Int) == 95) = false := beq_eq_false_iff_ne.2 h7
          go_enter Tryd.func15, Tryd.ntmps15
          go_wp2
          go_ret
          exact ⟨ret_bool (by rw [← HR.out]; exact (decide_eq_false (by omega)).symm), rfl⟩
    · have h5 : ((c.toNat : Int) == 95) = false := beq_eq_false_iff_ne.2 (by omega)
      by_cases h7 : (c.toNat : Int) = 36
      · have h6 : ((c.toNat : Int) == 36) = true := beq_iff_eq.2 h7
        have H7 := Veil.mk h7
        clear h7
        go_enter Tryd.func15, Tryd.ntmps15
        go_wp2
        go_ret
        exact ⟨ret_bool (by rw [← HR.out]; have := H7.out; exact (decide_eq_true (by omega)).symm), rfl⟩
      · have h6 : ((c.toNat : Int) == 36) = false := beq_eq_false_iff_ne.2 h7
        go_enter Tryd.func15, Tryd.ntmps15
        go_wp2
        go_ret
        exact ⟨ret_bool (by rw [← HR.out]; exact (decide_eq_false (by omega)).symm), rfl⟩
end Go.Proofs.YtfejompnjaifmaaDoor
