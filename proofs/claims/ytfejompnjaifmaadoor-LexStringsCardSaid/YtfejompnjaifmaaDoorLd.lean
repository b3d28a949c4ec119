/- Package lex: signs and key words. -/
import Derived.Test.YtfejompnjaifmaaDoorLb
namespace Go.Proofs.YtfejompnjaifmaaDoor
open Go Go.RowKit

theorem tl_eq (s : ByteArray) : s.toList = s.data.toList := by
  obtain ⟨⟨l⟩⟩ := s
  exact ByteArray.toList_mk ..
set_option maxHeartbeats 8000000 in
set_option maxRecDepth 100000 in
theorem isSign_any (s : ByteArray) (w : World) : Calls Tryd.prog 31 #[.string s] w fun e w' => e = .returned (.bool (signsL.contains s.data.toList)) ∧ w = w' := by
  obtain ⟨r, hr⟩ : ∃ r, signsL.contains s.data.toList = r := ⟨_, rfl⟩
  rw [hr]
  rw [← tl_eq] at hr
  have HR := Veil.mk hr
  clear hr
  go_enter Tryd.func31, Tryd.ntmps31
  go_wp2
  all_goals
    go_ret
    refine ⟨ret_bool ?_, rfl⟩
    rw [← HR.out]
    clear HR
    simp_all [signsL]
set_option maxHeartbeats 8000000 in
set_option maxRecDepth 100000 in
theorem isWord_any (s : ByteArray) (w : World) : Calls Tryd.prog 24 #[.string s] w fun e w' => e = .returned (.bool (wordsL.contains s.data.toList)) ∧ w = w' := by
  obtain ⟨r, hr⟩ : ∃ r, wordsL.contains s.data.toList = r := ⟨_, rfl⟩
  rw [hr]
  rw [← tl_eq] at hr
  have HR := Veil.mk hr
  clear hr
  go_enter Tryd.func24, Tryd.ntmps24
  go_wp2
  all_goals
    go_ret
    refine ⟨ret_bool ?_, rfl⟩
    rw [← HR.out]
    clear HR
    simp_all [wordsL]
end Go.Proofs.YtfejompnjaifmaaDoor
