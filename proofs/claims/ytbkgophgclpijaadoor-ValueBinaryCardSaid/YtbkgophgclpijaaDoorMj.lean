/- The contracts of num.Rem, Equal and Less: each returns what the chapter specifies, for all numbers. -/
import Derived.Test.YtbkgophgclpijaaDoorMg
namespace Go.Proofs.YtbkgophgclpijaaDoor.M
open Go.RowKit

set_option maxHeartbeats 800000 in
theorem rem_p1 (k2 n2 : Int) (w : World) :
    Calls Tryd.prog 81 #[vv 4 0, vv k2 n2] w fun e w' => e = .returned (vv 4 0) ∧ Below w.heap.size w w' := by
  go_enter Tryd.func81, Tryd.ntmps81
  go_wp2_with (first | (go_at_call 66; ((with_reducible refine (isNaN_nan _).mono ?_); rintro e w' ⟨rfl, rfl⟩)) | (go_at_call 92; ((with_reducible refine (nan_any _).mono ?_); rintro e w' ⟨rfl, rfl⟩)))
  all_goals exact bodyPost_ret (v := vv 4 0) (by simp [results, Tryd.results81, go_sem]) rfl ⟨rfl, by repeat (first | (with_reducible refine blw_alloc _ ?_) | (with_reducible refine Below.drew ?_) | (with_reducible exact Below.refl _ _))⟩

set_option maxHeartbeats 800000 in
theorem rem_p2 (k1 n1 : Int) (h1 : Num k1 n1) (h14 : (k1 == 4) = false) (w : World) :
    Calls Tryd.prog 81 #[vv k1 n1, vv 4 0] w fun e w' => e = .returned (vv 4 0) ∧ Below w.heap.size w w' := by
  go_enter Tryd.func81, Tryd.ntmps81
  go_wp2_with (first | (go_at_call 66; ((with_reducible refine (isNaN_not _ _ h1 h14 _).mono ?_); rintro e w' ⟨rfl, rfl⟩)) | (go_at_call 66; ((with_reducible refine (isNaN_nan _).mono ?_); rintro e w' ⟨rfl, rfl⟩)) | (go_at_call 92; ((with_reducible refine (nan_any _).mono ?_); rintro e w' ⟨rfl, rfl⟩)))
  all_goals exact bodyPost_ret (v := vv 4 0) (by simp [results, Tryd.results81, go_sem]) rfl ⟨rfl, by repeat (first | (with_reducible refine blw_alloc _ ?_) | (with_reducible refine Below.drew ?_) | (with_reducible exact Below.refl _ _))⟩

set_option maxHeartbeats 800000 in
theorem rem_p3 (k1 n1 k2 n2 : Int) (h1 : Num k1 n1) (h2 : Num k2 n2) (h14 : (k1 == 4) = false) (h24 : (k2 == 4) = false) (h15 : (k1 == 5) = true) (w : World) :
    Calls Tryd.prog 81 #[vv k1 n1, vv k2 n2] w fun e w' => e = .returned (vv 4 0) ∧ Below w.heap.size w w' := by
  go_enter Tryd.func81, Tryd.ntmps81
  go_wp2_with (first | (go_at_call 66; ((with_reducible refine (isNaN_not _ _ h1 h14 _).mono ?_); rintro e w' ⟨rfl, rfl⟩)) | (go_at_call 66; ((with_reducible refine (isNaN_not _ _ h2 h24 _).mono ?_); rintro e w' ⟨rfl, rfl⟩)) | (go_at_call 91; ((with_reducible refine (isInf_any _ _ _).mono ?_); rintro e w' ⟨rfl, rfl⟩)) | (go_at_call 96; ((with_reducible refine (isZero_any _ _ _).mono ?_); rintro e w' ⟨rfl, rfl⟩)) | (go_at_call 92; ((with_reducible refine (nan_any _).mono ?_); rintro e w' ⟨rfl, rfl⟩)) | (go_at_call 98; ((with_reducible refine (zero_pos _).mono ?_); rintro e w' ⟨rfl, rfl⟩)) | (go_at_call 98; ((with_reducible refine (zero_neg _).mono ?_); rintro e w' ⟨rfl, rfl⟩)) | (go_at_call 100; ((with_reducible refine (integer_any _ _).mono ?_); rintro e w' ⟨rfl, rfl⟩)) | (go_at_call 95; ((with_reducible refine (isNegative_any _ _ _).mono ?_); rintro e w' ⟨rfl, rfl⟩)))
  all_goals exact bodyPost_ret (v := vv 4 0) (by simp [results, Tryd.results81, go_sem]) rfl ⟨rfl, by repeat (first | (with_reducible refine blw_alloc _ ?_) | (with_reducible refine Below.drew ?_) | (with_reducible exact Below.refl _ _))⟩

set_option maxHeartbeats 800000 in
theorem rem_p4 (k1 n1 k2 n2 : Int) (h1 : Num k1 n1) (h2 : Num k2 n2) (h14 : (k1 == 4) = false) (h24 : (k2 == 4) = false) (h15 : (k1 == 5) = false) (h2z : zerB k2 n2 = true) (w : World) :
    Calls Tryd.prog 81 #[vv k1 n1, vv k2 n2] w fun e w' => e = .returned (vv 4 0) ∧ Below w.heap.size w w' := by
  go_enter Tryd.func81, Tryd.ntmps81
  go_wp2_with (first | (go_at_call 66; ((with_reducible refine (isNaN_not _ _ h1 h14 _).mono ?_); rintro e w' ⟨rfl, rfl⟩)) | (go_at_call 66; ((with_reducible refine (isNaN_not _ _ h2 h24 _).mono ?_); rintro e w' ⟨rfl, rfl⟩)) | (go_at_call 91; ((with_reducible refine (isInf_any _ _ _).mono ?_); rintro e w' ⟨rfl, rfl⟩)) | (go_at_call 96; ((with_reducible refine (isZero_any _ _ _).mono ?_); rintro e w' ⟨rfl, rfl⟩)) | (go_at_call 92; ((with_reducible refine (nan_any _).mono ?_); rintro e w' ⟨rfl, rfl⟩)) | (go_at_call 98; ((with_reducible refine (zero_pos _).mono ?_); rintro e w' ⟨rfl, rfl⟩)) | (go_at_call 98; ((with_reducible refine (zero_neg _).mono ?_); rintro e w' ⟨rfl, rfl⟩)) | (go_at_call 100; ((with_reducible refine (integer_any _ _).mono ?_); rintro e w' ⟨rfl, rfl⟩)) | (go_at_call 95; ((with_reducible refine (isNegative_any _ _ _).mono ?_); rintro e w' ⟨rfl, rfl⟩)))
  all_goals exact bodyPost_ret (v := vv 4 0) (by simp [results, Tryd.results81, go_sem]) rfl ⟨rfl, by repeat (first | (with_reducible refine blw_alloc _ ?_) | (with_reducible refine Below.drew ?_) | (with_reducible exact Below.refl _ _))⟩

set_option maxHeartbeats 800000 in
theorem rem_p5 (k1 n1 k2 n2 : Int) (h1 : Num k1 n1) (h2 : Num k2 n2) (h14 : (k1 == 4) = false) (h24 : (k2 == 4) = false) (h15 : (k1 == 5) = false) (h2z : zerB k2 n2 = false) (h25 : (k2 == 5) = true) (w : World) :
    Calls Tryd.prog 81 #[vv k1 n1, vv k2 n2] w fun e w' => e = .returned (vv k1 n1) ∧ Below w.heap.size w w' := by
  go_enter Tryd.func81, Tryd.ntmps81
  go_wp2_with (first | (go_at_call 66; ((with_reducible refine (isNaN_not _ _ h1 h14 _).mono ?_); rintro e w' ⟨rfl, rfl⟩)) | (go_at_call 66; ((with_reducible refine (isNaN_not _ _ h2 h24 _).mono ?_); rintro e w' ⟨rfl, rfl⟩)) | (go_at_call 91; ((with_reducible refine (isInf_any _ _ _).mono ?_); rintro e w' ⟨rfl, rfl⟩)) | (go_at_call 96; ((with_reducible refine (isZero_any _ _ _).mono ?_); rintro e w' ⟨rfl, rfl⟩)) | (go_at_call 92; ((with_reducible refine (nan_any _).mono ?_); rintro e w' ⟨rfl, rfl⟩)) | (go_at_call 98; ((with_reducible refine (zero_pos _).mono ?_); rintro e w' ⟨rfl, rfl⟩)) | (go_at_call 98; ((with_reducible refine (zero_neg _).mono ?_); rintro e w' ⟨rfl, rfl⟩)) | (go_at_call 100; ((with_reducible refine (integer_any _ _).mono ?_); rintro e w' ⟨rfl, rfl⟩)) | (go_at_call 95; ((with_reducible refine (isNegative_any _ _ _).mono ?_); rintro e w' ⟨rfl, rfl⟩)))
  all_goals exact bodyPost_ret (v := vv k1 n1) (by simp [results, Tryd.results81, go_sem]) rfl ⟨rfl, by repeat (first | (with_reducible refine blw_alloc _ ?_) | (with_reducible refine Below.drew ?_) | (with_reducible exact Below.refl _ _))⟩

set_option maxHeartbeats 800000 in
theorem rem_p6 (k1 n1 k2 n2 : Int) (h1 : Num k1 n1) (h2 : Num k2 n2) (h14 : (k1 == 4) = false) (h24 : (k2 == 4) = false) (h15 : (k1 == 5) = false) (h2z : zerB k2 n2 = false) (h25 : (k2 == 5) = false) (h1z : zerB k1 n1 = true) (w : World) :
    Calls Tryd.prog 81 #[vv k1 n1, vv k2 n2] w fun e w' => e = .returned (vv k1 n1) ∧ Below w.heap.size w w' := by
  go_enter Tryd.func81, Tryd.ntmps81
  go_wp2_with (first | (go_at_call 66; ((with_reducible refine (isNaN_not _ _ h1 h14 _).mono ?_); rintro e w' ⟨rfl, rfl⟩)) | (go_at_call 66; ((with_reducible refine (isNaN_not _ _ h2 h24 _).mono ?_); rintro e w' ⟨rfl, rfl⟩)) | (go_at_call 91; ((with_reducible refine (isInf_any _ _ _).mono ?_); rintro e w' ⟨rfl, rfl⟩)) | (go_at_call 96; ((with_reducible refine (isZero_any _ _ _).mono ?_); rintro e w' ⟨rfl, rfl⟩)) | (go_at_call 92; ((with_reducible refine (nan_any _).mono ?_); rintro e w' ⟨rfl, rfl⟩)) | (go_at_call 98; ((with_reducible refine (zero_pos _).mono ?_); rintro e w' ⟨rfl, rfl⟩)) | (go_at_call 98; ((with_reducible refine (zero_neg _).mono ?_); rintro e w' ⟨rfl, rfl⟩)) | (go_at_call 100; ((with_reducible refine (integer_any _ _).mono ?_); rintro e w' ⟨rfl, rfl⟩)) | (go_at_call 95; ((with_reducible refine (isNegative_any _ _ _).mono ?_); rintro e w' ⟨rfl, rfl⟩)))
  all_goals exact bodyPost_ret (v := vv k1 n1) (by simp [results, Tryd.results81, go_sem]) rfl ⟨rfl, by repeat (first | (with_reducible refine blw_alloc _ ?_) | (with_reducible refine Below.drew ?_) | (with_reducible exact Below.refl _ _))⟩

set_option maxHeartbeats 800000 in
theorem rem_p7 (n1 n2 : Int) (h1 : Num 3 n1) (h2 : Num 3 n2) (h1z : zerB 3 n1 = false) (h2z : zerB 3 n2 = false) (hz : n2 ≠ 0) (hr : (n1.tmod n2 == 0) = true) (hn : negB 3 n1 = true) (w : World) :
    Calls Tryd.prog 81 #[vv 3 n1, vv 3 n2] w fun e w' => e = .returned (vv 6 0) ∧ Below w.heap.size w w' := by
  go_enter Tryd.func81, Tryd.ntmps81
  go_wp2_with (first | (go_at_call 66; ((with_reducible refine (isNaN_not _ _ h1 rfl _).mono ?_); rintro e w' ⟨rfl, rfl⟩)) | (go_at_call 66; ((with_reducible refine (isNaN_not _ _ h2 rfl _).mono ?_); rintro e w' ⟨rfl, rfl⟩)) | (go_at_call 91; ((with_reducible refine (isInf_any _ _ _).mono ?_); rintro e w' ⟨rfl, rfl⟩)) | (go_at_call 96; ((with_reducible refine (isZero_any _ _ _).mono ?_); rintro e w' ⟨rfl, rfl⟩)) | (go_at_call 92; ((with_reducible refine (nan_any _).mono ?_); rintro e w' ⟨rfl, rfl⟩)) | (go_at_call 98; ((with_reducible refine (zero_pos _).mono ?_); rintro e w' ⟨rfl, rfl⟩)) | (go_at_call 98; ((with_reducible refine (zero_neg _).mono ?_); rintro e w' ⟨rfl, rfl⟩)) | (go_at_call 100; ((with_reducible refine (integer_any _ _).mono ?_); rintro e w' ⟨rfl, rfl⟩)) | (go_at_call 95; ((with_reducible refine (isNegative_any _ _ _).mono ?_); rintro e w' ⟨rfl, rfl⟩)))
  all_goals exact bodyPost_ret (v := vv 6 0) (by simp [results, Tryd.results81, go_sem]) rfl ⟨rfl, by repeat (first | (with_reducible refine blw_alloc _ ?_) | (with_reducible refine Below.drew ?_) | (with_reducible exact Below.refl _ _))⟩

set_option maxHeartbeats 800000 in
theorem rem_p7b (n1 n2 : Int) (h1 : Num 3 n1) (h2 : Num 3 n2) (h1z : zerB 3 n1 = false) (h2z : zerB 3 n2 = false) (hz : n2 ≠ 0) (hr : (n1.tmod n2 == 0) = true) (hn : negB 3 n1 = false) (w : World) :
    Calls Tryd.prog 81 #[vv 3 n1, vv 3 n2] w fun e w' => e = .returned (vv 3 0) ∧ Below w.heap.size w w' := by
  go_enter Tryd.func81, Tryd.ntmps81
  go_wp2_with (first | (go_at_call 66; ((with_reducible refine (isNaN_not _ _ h1 rfl _).mono ?_); rintro e w' ⟨rfl, rfl⟩)) | (go_at_call 66; ((with_reducible refine (isNaN_not _ _ h2 rfl _).mono ?_); rintro e w' ⟨rfl, rfl⟩)) | (go_at_call 91; ((with_reducible refine (isInf_any _ _ _).mono ?_); rintro e w' ⟨rfl, rfl⟩)) | (go_at_call 96; ((with_reducible refine (isZero_any _ _ _).mono ?_); rintro e w' ⟨rfl, rfl⟩)) | (go_at_call 92; ((with_reducible refine (nan_any _).mono ?_); rintro e w' ⟨rfl, rfl⟩)) | (go_at_call 98; ((with_reducible refine (zero_pos _).mono ?_); rintro e w' ⟨rfl, rfl⟩)) | (go_at_call 98; ((with_reducible refine (zero_neg _).mono ?_); rintro e w' ⟨rfl, rfl⟩)) | (go_at_call 100; ((with_reducible refine (integer_any _ _).mono ?_); rintro e w' ⟨rfl, rfl⟩)) | (go_at_call 95; ((with_reducible refine (isNegative_any _ _ _).mono ?_); rintro e w' ⟨rfl, rfl⟩)))
  all_goals exact bodyPost_ret (v := vv 3 0) (by simp [results, Tryd.results81, go_sem]) rfl ⟨rfl, by repeat (first | (with_reducible refine blw_alloc _ ?_) | (with_reducible refine Below.drew ?_) | (with_reducible exact Below.refl _ _))⟩

set_option maxHeartbeats 800000 in
theorem rem_p8 (n1 n2 : Int) (h1 : Num 3 n1) (h2 : Num 3 n2) (h1z : zerB 3 n1 = false) (h2z : zerB 3 n2 = false) (hz : n2 ≠ 0) (hr : (n1.tmod n2 == 0) = false) (w : World) :
    Calls Tryd.prog 81 #[vv 3 n1, vv 3 n2] w fun e w' => e = .returned (vv 3 (n1.tmod n2)) ∧ Below w.heap.size w w' := by
  go_enter Tryd.func81, Tryd.ntmps81
  go_wp2_with (first | (go_at_call 66; ((with_reducible refine (isNaN_not _ _ h1 rfl _).mono ?_); rintro e w' ⟨rfl, rfl⟩)) | (go_at_call 66; ((with_reducible refine (isNaN_not _ _ h2 rfl _).mono ?_); rintro e w' ⟨rfl, rfl⟩)) | (go_at_call 91; ((with_reducible refine (isInf_any _ _ _).mono ?_); rintro e w' ⟨rfl, rfl⟩)) | (go_at_call 96; ((with_reducible refine (isZero_any _ _ _).mono ?_); rintro e w' ⟨rfl, rfl⟩)) | (go_at_call 92; ((with_reducible refine (nan_any _).mono ?_); rintro e w' ⟨rfl, rfl⟩)) | (go_at_call 98; ((with_reducible refine (zero_pos _).mono ?_); rintro e w' ⟨rfl, rfl⟩)) | (go_at_call 98; ((with_reducible refine (zero_neg _).mono ?_); rintro e w' ⟨rfl, rfl⟩)) | (go_at_call 100; ((with_reducible refine (integer_any _ _).mono ?_); rintro e w' ⟨rfl, rfl⟩)) | (go_at_call 95; ((with_reducible refine (isNegative_any _ _ _).mono ?_); rintro e w' ⟨rfl, rfl⟩)))
  all_goals exact bodyPost_ret (v := vv 3 (n1.tmod n2)) (by simp [results, Tryd.results81, go_sem]) rfl ⟨rfl, by repeat (first | (with_reducible refine blw_alloc _ ?_) | (with_reducible refine Below.drew ?_) | (with_reducible exact Below.refl _ _))⟩

/-- What num.Rem answers. -/
def remR (k1 n1 k2 n2 : Int) : Int × Int :=
  if k1 = 4 ∨ k2 = 4 ∨ k1 = 5 ∨ zerB k2 n2 = true then (4, 0)
  else if k2 = 5 ∨ zerB k1 n1 = true then (k1, n1)
  else if n1.tmod n2 = 0 then ((if negB k1 n1 then 6 else 3), 0) else (3, n1.tmod n2)
theorem rem_any (k1 n1 k2 n2 : Int) (h1 : Num k1 n1) (h2 : Num k2 n2) (w : World) :
    Calls Tryd.prog 81 #[vv k1 n1, vv k2 n2] w fun e w' => e = .returned (vv (remR k1 n1 k2 n2).1 (remR k1 n1 k2 n2).2) ∧ Below w.heap.size w w' := by
  have key : ∀ r, remR k1 n1 k2 n2 = r → (Calls Tryd.prog 81 #[vv k1 n1, vv k2 n2] w fun e w' => e = .returned (vv r.1 r.2) ∧ Below w.heap.size w w') →
      Calls Tryd.prog 81 #[vv k1 n1, vv k2 n2] w fun e w' => e = .returned (vv (remR k1 n1 k2 n2).1 (remR k1 n1 k2 n2).2) ∧ Below w.heap.size w w' := by
    rintro r rfl h; exact h
  by_cases a4 : k1 = 4
  · refine key (4, 0) (by unfold remR; rw [if_pos (Or.inl a4)]) ?_
    subst a4; rw [num_nan 4 n1 h1 rfl]; exact rem_p1 k2 n2 w
  have a4b : (k1 == 4) = false := by simpa using a4
  by_cases b4 : k2 = 4
  · refine key (4, 0) (by unfold remR; rw [if_pos (Or.inr (Or.inl b4))]) ?_
    subst b4; rw [num_nan 4 n2 h2 rfl]; exact rem_p2 k1 n1 h1 a4b w
  have b4b : (k2 == 4) = false := by simpa using b4
  by_cases a5 : k1 = 5
  · exact key (4, 0) (by unfold remR; rw [if_pos (Or.inr (Or.inr (Or.inl a5)))]) (rem_p3 k1 n1 k2 n2 h1 h2 a4b b4b (by simpa using a5) w)
  have a5b : (k1 == 5) = false := by simpa using a5
  rcases hz2 : zerB k2 n2 with _ | _
  · have hN : ¬(k1 = 4 ∨ k2 = 4 ∨ k1 = 5 ∨ zerB k2 n2 = true) := by rw [hz2]; simp [a4, b4, a5]
    by_cases b5 : k2 = 5
    · exact key (k1, n1) (by unfold remR; rw [if_neg hN, if_pos (Or.inl b5)]) (rem_p5 k1 n1 k2 n2 h1 h2 a4b b4b a5b hz2 (by simpa using b5) w)
    rcases hz1 : zerB k1 n1 with _ | _
    · have hM : ¬(k2 = 5 ∨ zerB k1 n1 = true) := by rw [hz1]; simp [b5]
      obtain ⟨rfl, _, x1, x2⟩ := num_int k1 n1 h1 a4 a5 hz1
      obtain ⟨rfl, y0, y1, y2⟩ := num_int k2 n2 h2 b4 b5 hz2
      by_cases hr : n1.tmod n2 = 0
      · rcases hn : negB 3 n1 with _ | _
        · exact key (3, 0) (by unfold remR; rw [if_neg hN, if_neg hM, if_pos hr, hn]; rfl) (rem_p7b n1 n2 h1 h2 hz1 hz2 y0 (by simpa using hr) hn w)
        · exact key (6, 0) (by unfold remR; rw [if_neg hN, if_neg hM, if_pos hr, hn]; rfl) (rem_p7 n1 n2 h1 h2 hz1 hz2 y0 (by simpa using hr) hn w)
      · exact key (3, n1.tmod n2) (by unfold remR; rw [if_neg hN, if_neg hM, if_neg hr]) (rem_p8 n1 n2 h1 h2 hz1 hz2 y0 (by simpa using hr) w)
    · exact key (k1, n1) (by unfold remR; rw [if_neg hN, if_pos (Or.inr hz1)]) (rem_p6 k1 n1 k2 n2 h1 h2 a4b b4b a5b hz2 (by simpa using b5) hz1 w)
  · exact key (4, 0) (by unfold remR; rw [if_pos (Or.inr (Or.inr (Or.inr hz2)))]) (rem_p4 k1 n1 k2 n2 h1 h2 a4b b4b a5b hz2 w)
theorem rem_at {k1 n1 k2 n2 k n : Int} (h1 : Num k1 n1) (h2 : Num k2 n2) (h : Hid (remR k1 n1 k2 n2 = (k, n))) (w : World) :
    Calls Tryd.prog 81 #[vv k1 n1, vv k2 n2] w fun e w' => e = .returned (vv k n) ∧ Below w.heap.size w w' := by
  have hh := rem_any k1 n1 k2 n2 h1 h2 w
  rw [h.out] at hh
  exact hh

theorem nan_b (w : World) : Calls Tryd.prog 66 #[vv 4 0] w fun e w' => e = .returned (.bool true) ∧ Below w.heap.size w w' :=
  (isNaN_nan w).mono fun _ _ h => ⟨h.1, h.2 ▸ blw_alloc _ (Below.refl _ _)⟩
theorem not_b {k n : Int} (h : Num k n) (hk : (k == 4) = false) (w : World) : Calls Tryd.prog 66 #[vv k n] w fun e w' => e = .returned (.bool false) ∧ Below w.heap.size w w' :=
  (isNaN_not k n h hk w).mono fun _ _ h => ⟨h.1, h.2 ▸ blw_alloc _ (blw_alloc _ (Below.refl _ _))⟩
theorem rank_b {k n : Int} (h : Num k n) (w : World) : Calls Tryd.prog 67 #[vv k n] w fun e w' => e = .returned (.int .i64 (rk k n)) ∧ Below w.heap.size w w' :=
  (rank_any k n h w).mono fun _ _ h => ⟨h.1, h.2 ▸ blw_alloc _ (Below.refl _ _)⟩
theorem run_call28 (u : Value) (w : World) : (callFunc 66 #[u]).run Tryd.prog w = .ok (.enter 66 #[u]) w := by kernel_rfl
theorem run_call40 (u : Value) (w : World) : (callFunc 67 #[u]).run Tryd.prog w = .ok (.enter 67 #[u]) w := by kernel_rfl
set_option maxHeartbeats 800000 in
theorem equal_p1 (k2 n2 : Int) (w : World) :
    Calls Tryd.prog 47 #[vv 4 0, vv k2 n2] w fun e w' => e = .returned (.bool false) ∧ Below w.heap.size w w' := by
  have hA : At ((w.alloc (bx 4 0)).alloc (bx k2 n2)) w.heap.size 4 0 := (At.new 4 0 rfl).alloc _
  have hB : At ((w.alloc (bx 4 0)).alloc (bx k2 n2)) (w.heap.size + 1) k2 n2 := At.new k2 n2 (by simp)
  go_enter Tryd.func47, Tryd.ntmps47
  go_wp2_with fail
  refine wp_region_fresh (by kernel_rfl) (by kernel_rfl) ?_
  repeat (first | go_big_quiet_skip | (go_big_quiet_want; (first | (go_big_quiet_op; go_big_quiet_on) | (apply quiet_load; exact rfl; exact rfl; (intro wq hw9; first | with_reducible exact At.later hA hw9 | with_reducible exact At.later hB hw9); simp only [Act.put, List.setIfInBounds_toArray, List.set_cons_zero, List.set_cons_succ]; go_big_quiet_on) | (refine quiet_call1 (f := 66) (u := vv 4 0) (v := .bool true) rfl rfl (run_call28 _) ?_ ?_; (intro wq hw9; exact (nan_b wq).mono (fun _ _ hh => ⟨hh.1, blw_call hw9 hh.2⟩)); simp only [Act.put, List.setIfInBounds_toArray, List.set_cons_zero, List.set_cons_succ]; go_big_quiet_on) | (apply quiet_pure; (intro wq; go_simp; exact rfl); simp only [Act.put, List.setIfInBounds_toArray, List.set_cons_zero, List.set_cons_succ]; go_big_quiet_on))))
  refine wpQuiet_nil ?_
  intro w9 hb9
  go_wp2_with fail
  go_ret
  exact ⟨rfl, by repeat (first | (with_reducible assumption) | (with_reducible refine blw_alloc _ ?_) | (with_reducible refine Below.drew ?_) | (with_reducible exact Below.refl _ _) | (with_reducible refine blw_call ?_ (by assumption)))⟩

set_option maxHeartbeats 800000 in
theorem equal_p2 (k1 n1 : Int) (h1 : Num k1 n1) (h14 : (k1 == 4) = false) (w : World) :
    Calls Tryd.prog 47 #[vv k1 n1, vv 4 0] w fun e w' => e = .returned (.bool false) ∧ Below w.heap.size w w' := by
  have hA : At ((w.alloc (bx k1 n1)).alloc (bx 4 0)) w.heap.size k1 n1 := (At.new k1 n1 rfl).alloc _
  have hB : At ((w.alloc (bx k1 n1)).alloc (bx 4 0)) (w.heap.size + 1) 4 0 := At.new 4 0 (by simp)
  go_enter Tryd.func47, Tryd.ntmps47
  go_wp2_with fail
  refine wp_region_fresh (by kernel_rfl) (by kernel_rfl) ?_
  repeat (first | go_big_quiet_skip | (go_big_quiet_want; (first | (go_big_quiet_op; go_big_quiet_on) | (apply quiet_load; exact rfl; exact rfl; (intro wq hw9; first | with_reducible exact At.later hA hw9 | with_reducible exact At.later hB hw9); simp only [Act.put, List.setIfInBounds_toArray, List.set_cons_zero, List.set_cons_succ]; go_big_quiet_on) | (refine quiet_call1 (f := 66) (u := vv 4 0) (v := .bool true) rfl rfl (run_call28 _) ?_ ?_; (intro wq hw9; exact (nan_b wq).mono (fun _ _ hh => ⟨hh.1, blw_call hw9 hh.2⟩)); simp only [Act.put, List.setIfInBounds_toArray, List.set_cons_zero, List.set_cons_succ]; go_big_quiet_on) | (refine quiet_call1 (f := 66) (u := vv k1 n1) (v := .bool false) rfl rfl (run_call28 _) ?_ ?_; (intro wq hw9; exact (not_b h1 h14 wq).mono (fun _ _ hh => ⟨hh.1, blw_call hw9 hh.2⟩)); simp only [Act.put, List.setIfInBounds_toArray, List.set_cons_zero, List.set_cons_succ]; go_big_quiet_on) | (apply quiet_pure; (intro wq; go_simp; exact rfl); simp only [Act.put, List.setIfInBounds_toArray, List.set_cons_zero, List.set_cons_succ]; go_big_quiet_on))))
  refine wpQuiet_nil ?_
  intro w9 hb9
  go_wp2_with fail
  go_ret
  exact ⟨rfl, by repeat (first | (with_reducible assumption) | (with_reducible refine blw_alloc _ ?_) | (with_reducible refine Below.drew ?_) | (with_reducible exact Below.refl _ _) | (with_reducible refine blw_call ?_ (by assumption)))⟩

set_option maxHeartbeats 800000 in
theorem equal_p3 (k1 n1 k2 n2 : Int) (h1 : Num k1 n1) (h2 : Num k2 n2) (h14 : (k1 == 4) = false) (h24 : (k2 == 4) = false) (w : World) :
    Calls Tryd.prog 47 #[vv k1 n1, vv k2 n2] w fun e w' => e = .returned (.bool (rk k1 n1 == rk k2 n2)) ∧ Below w.heap.size w w' := by
  have hA : At ((w.alloc (bx k1 n1)).alloc (bx k2 n2)) w.heap.size k1 n1 := (At.new k1 n1 rfl).alloc _
  have hB : At ((w.alloc (bx k1 n1)).alloc (bx k2 n2)) (w.heap.size + 1) k2 n2 := At.new k2 n2 (by simp)
  go_enter Tryd.func47, Tryd.ntmps47
  go_wp2_with fail
  refine wp_region_fresh (by kernel_rfl) (by kernel_rfl) ?_
  repeat (first | go_big_quiet_skip | (go_big_quiet_want; (first | (go_big_quiet_op; go_big_quiet_on) | (apply quiet_load; exact rfl; exact rfl; (intro wq hw9; first | with_reducible exact At.later hA hw9 | with_reducible exact At.later hB hw9); simp only [Act.put, List.setIfInBounds_toArray, List.set_cons_zero, List.set_cons_succ]; go_big_quiet_on) | (refine quiet_call1 (f := 66) (u := vv k1 n1) (v := .bool false) rfl rfl (run_call28 _) ?_ ?_; (intro wq hw9; exact (not_b h1 h14 wq).mono (fun _ _ hh => ⟨hh.1, blw_call hw9 hh.2⟩)); simp only [Act.put, List.setIfInBounds_toArray, List.set_cons_zero, List.set_cons_succ]; go_big_quiet_on) | (refine quiet_call1 (f := 66) (u := vv k2 n2) (v := .bool false) rfl rfl (run_call28 _) ?_ ?_; (intro wq hw9; exact (not_b h2 h24 wq).mono (fun _ _ hh => ⟨hh.1, blw_call hw9 hh.2⟩)); simp only [Act.put, List.setIfInBounds_toArray, List.set_cons_zero, List.set_cons_succ]; go_big_quiet_on) | (refine quiet_call1 (f := 67) (u := vv k1 n1) (v := .int .i64 (rk k1 n1)) rfl rfl (run_call40 _) ?_ ?_; (intro wq hw9; exact (rank_b h1 wq).mono (fun _ _ hh => ⟨hh.1, blw_call hw9 hh.2⟩)); simp only [Act.put, List.setIfInBounds_toArray, List.set_cons_zero, List.set_cons_succ]; go_big_quiet_on) | (refine quiet_call1 (f := 67) (u := vv k2 n2) (v := .int .i64 (rk k2 n2)) rfl rfl (run_call40 _) ?_ ?_; (intro wq hw9; exact (rank_b h2 wq).mono (fun _ _ hh => ⟨hh.1, blw_call hw9 hh.2⟩)); simp only [Act.put, List.setIfInBounds_toArray, List.set_cons_zero, List.set_cons_succ]; go_big_quiet_on) | (apply quiet_pure; (intro wq; go_simp; exact rfl); simp only [Act.put, List.setIfInBounds_toArray, List.set_cons_zero, List.set_cons_succ]; go_big_quiet_on))))
  refine wpQuiet_nil ?_
  intro w9 hb9
  go_wp2_with fail
  go_ret
  exact ⟨rfl, by repeat (first | (with_reducible assumption) | (with_reducible refine blw_alloc _ ?_) | (with_reducible refine Below.drew ?_) | (with_reducible exact Below.refl _ _) | (with_reducible refine blw_call ?_ (by assumption)))⟩

set_option maxHeartbeats 800000 in
theorem less_p1 (k2 n2 : Int) (w : World) :
    Calls Tryd.prog 76 #[vv 4 0, vv k2 n2] w fun e w' => e = .returned (.tuple #[.bool false, .bool false]) ∧ Below w.heap.size w w' := by
  go_enter Tryd.func76, Tryd.ntmps76
  go_wp2_with (first | (go_at_call 66; ((with_reducible refine (isNaN_nan _).mono ?_); rintro e w' ⟨rfl, rfl⟩)))
  go_ret2
  exact ⟨rfl, by repeat (first | (with_reducible assumption) | (with_reducible refine blw_alloc _ ?_) | (with_reducible refine Below.drew ?_) | (with_reducible exact Below.refl _ _) | (with_reducible refine blw_call ?_ (by assumption)))⟩

set_option maxHeartbeats 800000 in
theorem less_p2 (k1 n1 : Int) (h1 : Num k1 n1) (h14 : (k1 == 4) = false) (w : World) :
    Calls Tryd.prog 76 #[vv k1 n1, vv 4 0] w fun e w' => e = .returned (.tuple #[.bool false, .bool false]) ∧ Below w.heap.size w w' := by
  go_enter Tryd.func76, Tryd.ntmps76
  go_wp2_with (first | (go_at_call 66; ((with_reducible refine (isNaN_not _ _ h1 h14 _).mono ?_); rintro e w' ⟨rfl, rfl⟩)) | (go_at_call 66; ((with_reducible refine (isNaN_nan _).mono ?_); rintro e w' ⟨rfl, rfl⟩)))
  go_ret2
  exact ⟨rfl, by repeat (first | (with_reducible assumption) | (with_reducible refine blw_alloc _ ?_) | (with_reducible refine Below.drew ?_) | (with_reducible exact Below.refl _ _) | (with_reducible refine blw_call ?_ (by assumption)))⟩

set_option maxHeartbeats 800000 in
theorem less_p3 (k1 n1 k2 n2 : Int) (h1 : Num k1 n1) (h2 : Num k2 n2) (h14 : (k1 == 4) = false) (h24 : (k2 == 4) = false) (w : World) :
    Calls Tryd.prog 76 #[vv k1 n1, vv k2 n2] w fun e w' => e = .returned (.tuple #[.bool (decide (rk k1 n1 < rk k2 n2)), .bool true]) ∧ Below w.heap.size w w' := by
  have hA : At ((w.alloc (bx k1 n1)).alloc (bx k2 n2)) w.heap.size k1 n1 := (At.new k1 n1 rfl).alloc _
  have hB : At ((w.alloc (bx k1 n1)).alloc (bx k2 n2)) (w.heap.size + 1) k2 n2 := At.new k2 n2 (by simp)
  have hA2 := (((hA.alloc (bx k1 n1)).alloc (bx k1 n1)).alloc (bx k2 n2)).alloc (bx k2 n2)
  have hB2 := (((hB.alloc (bx k1 n1)).alloc (bx k1 n1)).alloc (bx k2 n2)).alloc (bx k2 n2)
  go_enter Tryd.func76, Tryd.ntmps76
  go_wp2_with (first | (go_at_call 66; ((with_reducible refine (isNaN_not _ _ h1 h14 _).mono ?_); rintro e w' ⟨rfl, rfl⟩)) | (go_at_call 66; ((with_reducible refine (isNaN_not _ _ h2 h24 _).mono ?_); rintro e w' ⟨rfl, rfl⟩)))
  refine wp_region_fresh (by kernel_rfl) (by kernel_rfl) ?_
  repeat (first | go_big_quiet_skip | (go_big_quiet_want; (first | (go_big_quiet_op; go_big_quiet_on) | (apply quiet_load; exact rfl; exact rfl; (intro wq hw9; first | with_reducible exact At.later hA2 hw9 | with_reducible exact At.later hB2 hw9); simp only [Act.put, List.setIfInBounds_toArray, List.set_cons_zero, List.set_cons_succ]; go_big_quiet_on) | (refine quiet_call1 (f := 67) (u := vv k1 n1) (v := .int .i64 (rk k1 n1)) rfl rfl (run_call40 _) ?_ ?_; (intro wq hw9; exact (rank_b h1 wq).mono (fun _ _ hh => ⟨hh.1, blw_call hw9 hh.2⟩)); simp only [Act.put, List.setIfInBounds_toArray, List.set_cons_zero, List.set_cons_succ]; go_big_quiet_on) | (refine quiet_call1 (f := 67) (u := vv k2 n2) (v := .int .i64 (rk k2 n2)) rfl rfl (run_call40 _) ?_ ?_; (intro wq hw9; exact (rank_b h2 wq).mono (fun _ _ hh => ⟨hh.1, blw_call hw9 hh.2⟩)); simp only [Act.put, List.setIfInBounds_toArray, List.set_cons_zero, List.set_cons_succ]; go_big_quiet_on) | (apply quiet_pure; (intro wq; go_simp; exact rfl); simp only [Act.put, List.setIfInBounds_toArray, List.set_cons_zero, List.set_cons_succ]; go_big_quiet_on))))
  refine wpQuiet_nil ?_
  intro w9 hb9
  go_wp2_with fail
  go_ret2
  exact ⟨rfl, by repeat (first | (with_reducible assumption) | (with_reducible refine blw_alloc _ ?_) | (with_reducible refine Below.drew ?_) | (with_reducible exact Below.refl _ _) | (with_reducible refine blw_call ?_ (by assumption)))⟩

/-- What num.Equal answers. -/
def eqR (k1 n1 k2 n2 : Int) : Bool := if k1 = 4 ∨ k2 = 4 then false else rk k1 n1 == rk k2 n2
theorem equal_any (k1 n1 k2 n2 : Int) (h1 : Num k1 n1) (h2 : Num k2 n2) (w : World) :
    Calls Tryd.prog 47 #[vv k1 n1, vv k2 n2] w fun e w' => e = .returned (.bool (eqR k1 n1 k2 n2)) ∧ Below w.heap.size w w' := by
  unfold eqR
  by_cases a4 : k1 = 4
  · subst a4; rw [num_nan 4 n1 h1 rfl, if_pos (Or.inl rfl)]; exact equal_p1 k2 n2 w
  by_cases b4 : k2 = 4
  · subst b4; rw [num_nan 4 n2 h2 rfl, if_pos (Or.inr rfl)]; exact equal_p2 k1 n1 h1 (by simpa using a4) w
  rw [if_neg (by simp [a4, b4])]
  exact equal_p3 k1 n1 k2 n2 h1 h2 (by simpa using a4) (by simpa using b4) w
theorem equal_at {k1 n1 k2 n2 : Int} {r : Bool} (h1 : Num k1 n1) (h2 : Num k2 n2) (h : Hid (eqR k1 n1 k2 n2 = r)) (w : World) :
    Calls Tryd.prog 47 #[vv k1 n1, vv k2 n2] w fun e w' => e = .returned (.bool r) ∧ Below w.heap.size w w' := h.out ▸ equal_any k1 n1 k2 n2 h1 h2 w
/-- What num.Less answers. -/
def lessR (k1 n1 k2 n2 : Int) : Bool × Bool := if k1 = 4 ∨ k2 = 4 then (false, false) else (decide (rk k1 n1 < rk k2 n2), true)
theorem less_any (k1 n1 k2 n2 : Int) (h1 : Num k1 n1) (h2 : Num k2 n2) (w : World) :
    Calls Tryd.prog 76 #[vv k1 n1, vv k2 n2] w fun e w' => e = .returned (.tuple #[.bool (lessR k1 n1 k2 n2).1, .bool (lessR k1 n1 k2 n2).2]) ∧ Below w.heap.size w w' := by
  unfold lessR
  by_cases a4 : k1 = 4
  · subst a4; rw [num_nan 4 n1 h1 rfl, if_pos (Or.inl rfl)]; exact less_p1 k2 n2 w
  by_cases b4 : k2 = 4
  · subst b4; rw [num_nan 4 n2 h2 rfl, if_pos (Or.inr rfl)]; exact less_p2 k1 n1 h1 (by simpa using a4) w
  rw [if_neg (by simp [a4, b4])]
  exact less_p3 k1 n1 k2 n2 h1 h2 (by simpa using a4) (by simpa using b4) w
theorem less_at {k1 n1 k2 n2 : Int} {r s : Bool} (h1 : Num k1 n1) (h2 : Num k2 n2) (h : Hid (lessR k1 n1 k2 n2 = (r, s))) (w : World) :
    Calls Tryd.prog 76 #[vv k1 n1, vv k2 n2] w fun e w' => e = .returned (.tuple #[.bool r, .bool s]) ∧ Below w.heap.size w w' := by
  have hh := less_any k1 n1 k2 n2 h1 h2 w
  rw [h.out] at hh
  exact hh
end Go.Proofs.YtbkgophgclpijaaDoor.M
