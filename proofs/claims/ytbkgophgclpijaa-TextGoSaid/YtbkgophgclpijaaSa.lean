/- TextSigns: the character at a place: isHigh, isLow, Point. -/
import Derived.Test.YtbkgophgclpijaaSe
namespace Go.Proofs.Ytbkgophgclpijaa
open Go Go.RowKit

theorem at_nat (s : ByteArray) (hs : s.size ≤ 16777216) (i : Nat) (w : World) :
    Calls Try.prog 19 #[.string s, .int .i64 (i : Int)] w fun e w' => e = .returned (.int .u16 (((unitsS s)[i]?.getD 0 : Nat) : Int)) ∧ ∃ n, w' = w.drewN n := by
  by_cases hi : i < s.size / 2
  · exact at_in s hs i hi w
  · refine (at_out s hs (i : Int) (.inr (by omega)) w).mono fun e w' h => ⟨?_, 0, ?_⟩
    · rw [h.1, List.getElem?_eq_none (by rw [unitsS_length]; omega)]
      rfl
    · rw [← h.2]; rfl
def isHi (u : Nat) : Bool := decide (55296 ≤ u) && decide (u ≤ 56319)
def isLo (u : Nat) : Bool := decide (56320 ≤ u) && decide (u ≤ 57343)
theorem high_any (u : Nat) (w : World) : Calls Try.prog 20 #[.int .i32 (u : Int)] w fun e w' => e = .returned (.bool (isHi u)) ∧ w = w' := by
  by_cases h1 : (55296 : Int) ≤ (u : Int)
  · have HX : Hid (isHi u = decide ((u : Int) ≤ 56319)) := Lib.hid (by
      have a : 55296 ≤ u := by omega
      rw [isHi, decide_eq_true a, Bool.true_and, decide_eq_decide]; omega)
    go_enter Try.func20, Try.ntmps20
    go_wp2
    go_ret
    exact ⟨ret_bool HX.out.symm, rfl⟩
  · have HX : Hid (isHi u = false) := Lib.hid (by
      have a : ¬ 55296 ≤ u := by omega
      rw [isHi, decide_eq_false a, Bool.false_and])
    go_enter Try.func20, Try.ntmps20
    go_wp2
    go_ret
    exact ⟨ret_bool HX.out.symm, rfl⟩
theorem low_any (u : Nat) (w : World) : Calls Try.prog 21 #[.int .i32 (u : Int)] w fun e w' => e = .returned (.bool (isLo u)) ∧ w = w' := by
  by_cases h1 : (56320 : Int) ≤ (u : Int)
  · have HX : Hid (isLo u = decide ((u : Int) ≤ 57343)) := Lib.hid (by
      have a : 56320 ≤ u := by omega
      rw [isLo, decide_eq_true a, Bool.true_and, decide_eq_decide]; omega)
    go_enter Try.func21, Try.ntmps21
    go_wp2
    go_ret
    exact ⟨ret_bool HX.out.symm, rfl⟩
  · have HX : Hid (isLo u = false) := Lib.hid (by
      have a : ¬ 56320 ≤ u := by omega
      rw [isLo, decide_eq_false a, Bool.false_and])
    go_enter Try.func21, Try.ntmps21
    go_wp2
    go_ret
    exact ⟨ret_bool HX.out.symm, rfl⟩

/-- The code point of the character that starts with unit u, v being the next one, and its number of units. -/
def ptP (u v : Nat) : Nat × Nat := if isHi u && isLo v then (65536 + (u - 55296) * 1024 + (v - 56320), 2) else (u, 1)
theorem point_in (s : ByteArray) (hs : s.size ≤ 16777216) (i : Nat) (hi : i < s.size / 2) (w : World) :
    Calls Try.prog 11 #[.string s, .int .i64 (i : Int)] w fun e w' => e = .returned (.tuple #[.int .i32 ((ptP ((unitsS s)[i]?.getD 0) ((unitsS s)[i + 1]?.getD 0)).1 : Nat), .int .i64 ((ptP ((unitsS s)[i]?.getD 0) ((unitsS s)[i + 1]?.getD 0)).2 : Nat)]) ∧ ∃ n, w' = w.drewN n := by
  have HA := fun w => at_nat s hs i w
  have HB : ∀ w, Calls Try.prog 19 #[.string s, .int .i64 ((i : Int) + 1)] w fun e w' => e = .returned (.int .u16 (((unitsS s)[i + 1]?.getD 0 : Nat) : Int)) ∧ ∃ n, w' = w.drewN n := fun w => by
    have := at_nat s hs (i + 1) w
    rwa [show ((i + 1 : Nat) : Int) = (i : Int) + 1 by omega] at this
  have hu : (unitsS s)[i]?.getD 0 < 65536 := by
    rcases h : (unitsS s)[i]? with _ | x
    · decide
    · exact units_lt _ x (List.mem_of_getElem? h)
  have hv : (unitsS s)[i + 1]?.getD 0 < 65536 := by
    rcases h : (unitsS s)[i + 1]? with _ | x
    · decide
    · exact units_lt _ x (List.mem_of_getElem? h)
  generalize (unitsS s)[i]?.getD 0 = u at hu HA ⊢
  generalize (unitsS s)[i + 1]?.getD 0 = v at hv HB ⊢
  have g0 : (i : Int) < (s.size : Int) / 2 := by omega
  have e2 : IntKind.i32.wrap (u : Int) = (u : Int) := IntWalk.i32_in _ (by omega)
  have e3 : IntKind.i32.wrap (v : Int) = (v : Int) := IntWalk.i32_in _ (by omega)
  have H1 := fun w => high_any u w
  have H2 := fun w => low_any v w
  rcases h1 : isHi u with _ | _
  · have HP : Hid (ptP u v = (u, 1)) := Lib.hid (by simp [ptP, h1])
    rw [h1] at H1
    go_enter Try.func11, Try.ntmps11
    go_wp2_with (first | (go_at_call 19; ((with_reducible refine (HA _).mono ?_); rintro e w1 ⟨rfl, n1, rfl⟩)) | (go_at_call 19; ((with_reducible refine (HB _).mono ?_); rintro e w1 ⟨rfl, n2, rfl⟩)) | (go_at_call 16; ((with_reducible refine (len_any _ hs _).mono ?_); rintro e w1 ⟨rfl, rfl⟩)) | (go_at_call 20; ((with_reducible refine (H1 _).mono ?_); rintro e w1 ⟨rfl, rfl⟩)) | (go_at_call 21; ((with_reducible refine (H2 _).mono ?_); rintro e w1 ⟨rfl, rfl⟩)))
    go_ret2
    exact ⟨by rw [HP.out]; rfl, _, rfl⟩
  · rw [h1] at H1
    rcases h2 : isLo v with _ | _
    · have HP : Hid (ptP u v = (u, 1)) := Lib.hid (by simp [ptP, h1, h2])
      rw [h2] at H2
      go_enter Try.func11, Try.ntmps11
      go_wp2_with (first | (go_at_call 19; ((with_reducible refine (HA _).mono ?_); rintro e w1 ⟨rfl, n1, rfl⟩)) | (go_at_call 19; ((with_reducible refine (HB _).mono ?_); rintro e w1 ⟨rfl, n2, rfl⟩)) | (go_at_call 16; ((with_reducible refine (len_any _ hs _).mono ?_); rintro e w1 ⟨rfl, rfl⟩)) | (go_at_call 20; ((with_reducible refine (H1 _).mono ?_); rintro e w1 ⟨rfl, rfl⟩)) | (go_at_call 21; ((with_reducible refine (H2 _).mono ?_); rintro e w1 ⟨rfl, rfl⟩)))
      go_ret2
      exact ⟨by rw [HP.out]; rfl, _, rfl⟩
    · have HP : Hid (ptP u v = (65536 + (u - 55296) * 1024 + (v - 56320), 2)) := Lib.hid (by simp [ptP, h1, h2])
      have HE : Hid (((65536 + (u - 55296) * 1024 + (v - 56320) : Nat) : Int) = 65536 + ((u : Int) - 55296) * 1024 + ((v : Int) - 56320)) := Lib.hid (by
        simp only [isHi, isLo, Bool.and_eq_true, decide_eq_true_eq] at h1 h2
        omega)
      rw [h2] at H2
      go_enter Try.func11, Try.ntmps11
      go_wp2_with (first | (go_at_call 19; ((with_reducible refine (HA _).mono ?_); rintro e w1 ⟨rfl, n1, rfl⟩)) | (go_at_call 19; ((with_reducible refine (HB _).mono ?_); rintro e w1 ⟨rfl, n2, rfl⟩)) | (go_at_call 16; ((with_reducible refine (len_any _ hs _).mono ?_); rintro e w1 ⟨rfl, rfl⟩)) | (go_at_call 20; ((with_reducible refine (H1 _).mono ?_); rintro e w1 ⟨rfl, rfl⟩)) | (go_at_call 21; ((with_reducible refine (H2 _).mono ?_); rintro e w1 ⟨rfl, rfl⟩)))
      go_ret2
      exact ⟨by
        rw [HP.out]
        show Ending.returned (.tuple #[.int .i32 (65536 + ((u : Int) - 55296) * 1024 + ((v : Int) - 56320)), .int .i64 2]) = .returned (.tuple #[.int .i32 ((65536 + (u - 55296) * 1024 + (v - 56320) : Nat) : Int), .int .i64 ((2 : Nat) : Int)])
        rw [HE.out]
        rfl, _, rfl⟩
end Go.Proofs.Ytbkgophgclpijaa
