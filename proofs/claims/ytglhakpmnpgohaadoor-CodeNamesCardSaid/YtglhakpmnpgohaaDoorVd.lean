/- CodeOperators at every input, and where the listed table of the blanks lies. -/
import Derived.Test.YtglhakpmnpgohaaDoorVc
import Derived.Test.YtglhakpmnpgohaaDoorVy
import Derived.Stop.LaidErr
namespace Go.Proofs.YtglhakpmnpgohaaDoor
open Go.ChangeShapes Go.WideShapes Go.ChangeAt Go.WideMaps Go.WideElems Go.RowKit

theorem tab_named : Tryd.prog.globalNamed "strings.asciiSpace" = some 0 := by kernel_rfl
theorem tab_type : (Tryd.prog.globals[0]?).map (·.type) = some 55 := by kernel_rfl
theorem tab_data : (Rows.laid_strings_asciiSpace : DataW Unit) = Lib.tabData .u8 Lib.asciiSpaceTab := by kernel_rfl
theorem tb_of_head {W : World} (h3 : laidMet Tryd.prog [("strings.asciiSpace", Rows.laid_strings_asciiSpace)] W) : Tb W := by
  rw [tab_data] at h3
  exact Lib.tabBelow_of_tabIs (Lib.tabIs_of_head tab_named tab_type Tryd.underlying55 Tryd.underlying5 (by kernel_rfl) (by kernel_rfl) h3)
theorem tb_of2 {W : World} (h : laidMetH Tryd.prog tabs2 W) : Tb W := by
  rw [MakeChecks.laidMetH_plain _ _ _ (by kernel_rfl)] at h
  exact tb_of_head (laidMet.tail h)
theorem tb_of5 {W : World} (h : laidMetH Tryd.prog tabs5 W) : Tb W := by
  rw [MakeChecks.laidMetH_plain _ _ _ (by kernel_rfl)] at h
  exact tb_of_head (laidMet.tail (laidMet.tail (laidMet.tail (laidMet.tail h))))

theorem ops_where (s : ByteArray) : ∃ kk : Option Nat, (∀ j : Nat, j < 11 → (opS j == s) = decide (kk = some j)) ∧ (∀ k, kk = some k → k < 11 ∧ s = opS k) := by
  by_cases h : ∃ k, k < 11 ∧ (opS k == s) = true
  · obtain ⟨k, hk, he⟩ := h
    have hs : s = opS k := by
      have : ((opS k).data == s.data) = true := he
      exact (ByteArray.ext (by simpa using this)).symm
    refine ⟨some k, fun j hj => ?_, fun k' hk' => by injection hk' with e; subst e; exact ⟨hk, hs⟩⟩
    by_cases hjk : j = k
    · subst hjk; rw [he]; simp
    · have : decide (some k = some j) = false := by simp; omega
      rw [this, hs]
      rcases Nat.lt_or_ge j k with hl | hl
      · have h1 := ops_distinct k hk j hl
        cases hx : (opS j == opS k) with
        | false => rfl
        | true =>
          have hy : ((opS j).data == (opS k).data) = true := hx
          have : opS k = opS j := (ByteArray.ext (by simpa using hy)).symm
          rw [this] at h1
          have h2 : ((opS j).data == (opS j).data) = false := h1
          simp at h2
      · exact ops_distinct j hj k (by omega)
  · refine ⟨none, fun j hj => ?_, fun k hk => by cases hk⟩
    cases hx : (opS j == s) with
    | false => simp
    | true => exact absurd ⟨j, hj, hx⟩ h

theorem ops_all (n : Int) (s : ByteArray) (w : World) (hT : Tb w) :
    Calls Tryd.prog 3 #[.int .i64 n, .string s] w fun e w' => e = .returned (.bool true) ∧ Below w.heap.size w w' := by
  obtain ⟨kk, hs, hkk⟩ := ops_where s
  have hN : ∃ (nn : Option Nat) (x : ByteArray), (∀ j : Nat, j < 11 → ((j : Int) == n) = decide (nn = some j)) ∧ wantAt nn 11 = x ∧ (∀ W, Tb W → Calls Tryd.prog 9 #[.int .i64 n] W fun e w' => e = .returned (.string x) ∧ Below W.heap.size W w') := by
    by_cases hin : 0 ≤ n ∧ n < 11
    · obtain ⟨N, rfl⟩ := Int.eq_ofNat_of_zero_le hin.1
      refine ⟨some N, opS N, fun j _ => ?_, by simp only [wantAt]; rw [if_pos (by omega)], fun W hW => operator_in N (by omega) W hW⟩
      by_cases h : j = N
      · subst h; simp
      · have h1 : ¬ ((j : Int) = (N : Int)) := by omega
        have h2 : ¬ (some N = some j) := fun e => h (by injection e with e; exact e.symm)
        rw [decide_eq_false h2]; simpa using h1
    · refine ⟨none, ⟨#[]⟩, fun j hj => ?_, rfl, fun W hW => operator_out n (by omega) W hW⟩
      have h1 : ¬ ((j : Int) = n) := by omega
      simpa using h1
  obtain ⟨nn, x, hn, hx, HO⟩ := hN
  cases kk with
  | none =>
    exact ops_core n s x (-1) nn none hn hs hx rfl HO (fun W hW => operators_miss s (fun j hj => by
      have h1 := hs j hj
      have h2 : (opS j == s) = false := by rw [h1]; simp
      cases hy : (s == opS j) with
      | false => rfl
      | true =>
        have hy' : (s.data == (opS j).data) = true := hy
        have : s = opS j := ByteArray.ext (by simpa using hy')
        rw [this] at h2
        have h3 : ((opS j).data == (opS j).data) = false := h2
        simp at h3) W hW) (Or.inl (by omega)) w hT
  | some K =>
    obtain ⟨hK, rfl⟩ := hkk K rfl
    exact ops_core n (opS K) x (K : Int) nn (some K) hn hs hx (by simp only [kAt]; rw [if_pos (by omega)]) HO (fun W hW => operators_hit K hK W hW) (Or.inr ⟨by omega, fun W hW => operator_in K hK W hW⟩) w hT
end Go.Proofs.YtglhakpmnpgohaaDoor
