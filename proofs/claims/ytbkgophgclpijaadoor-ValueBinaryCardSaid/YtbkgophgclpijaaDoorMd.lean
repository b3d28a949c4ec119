/- The contract of num.Add: it returns what the chapter specifies, for all numbers. -/
import Derived.Test.YtbkgophgclpijaaDoorMb
import Derived.Deep.RegionHeld3
import Derived.Outline
namespace Go.Proofs.YtbkgophgclpijaaDoor.M
open Go.RowKit



theorem bcell {W w1 : World} (hb : Below W.heap.size W w1) : (∀ b o, b < W.heap.size → w1.cell? ⟨b, o, none⟩ = W.cell? ⟨b, o, none⟩) ∧ (∀ b o, b < W.heap.size → w1.frozen? ⟨b, o, none⟩ = W.frozen? ⟨b, o, none⟩) :=
  ⟨fun b o h => hb.cell (p := ⟨b, o, none⟩) h, fun b o h => hb.frozen (p := ⟨b, o, none⟩) h⟩
theorem int_in2 (n : Int) (h1 : -9007199254740991 ≤ n) (h2 : n ≤ 9007199254740991) (w : World) :
    Calls Tryd.prog 93 #[.int .i64 n] w fun e w' => e = .returned (.tuple #[vv 3 n, .bool true]) ∧ (w.alloc (bx 3 n)).alloc (bx 3 n) = w' := by
  go_enter Tryd.func93, Tryd.ntmps93
  go_wp2_with (go_at_call 100; refine (integer_any _ _).mono ?_; rintro e w' ⟨rfl, rfl⟩)
  exact bodyPost_ret (v := .tuple #[vv 3 n, .bool true]) (by simp [results, Tryd.results93, go_sem]) rfl ⟨rfl, rfl⟩
theorem int_out2 (n : Int) (h1 : n < -9007199254740991 ∨ 9007199254740991 < n) (w : World) :
    Calls Tryd.prog 93 #[.int .i64 n] w fun e w' => e = .returned (.tuple #[vv 0 0, .bool false]) ∧ w.alloc (bx 0 0) = w' := by
  rcases h1 with h1 | h1
  all_goals
    go_enter Tryd.func93, Tryd.ntmps93
    go_wp2_with (go_at_call 100; refine (integer_any _ _).mono ?_; rintro e w' ⟨rfl, rfl⟩)
    exact bodyPost_ret (v := .tuple #[vv 0 0, .bool false]) (by simp [results, Tryd.results93, go_sem]) rfl ⟨rfl, rfl⟩

set_option maxHeartbeats 800000 in
theorem add_p1 (k2 n2 : Int) (w : World) :
    Calls Tryd.prog 77 #[vv 4 0, vv k2 n2] w fun e w' => e = .returned (.tuple #[vv 4 0, .bool true]) ∧ Below w.heap.size w w' := by
  go_enter Tryd.func77, Tryd.ntmps77
  go_wp2_with (first | (go_at_call 66; ((with_reducible refine (isNaN_nan _).mono ?_); rintro e w' ⟨rfl, rfl⟩)) | (go_at_call 92; ((with_reducible refine (nan_any _).mono ?_); rintro e w' ⟨rfl, rfl⟩)))
  all_goals exact bodyPost_ret (v := .tuple #[vv 4 0, .bool true]) (by simp [results, Tryd.results77, go_sem]) rfl ⟨rfl, by repeat (first | (with_reducible refine blw_alloc _ ?_) | (with_reducible refine Below.drew ?_) | (with_reducible exact Below.refl _ _))⟩

set_option maxHeartbeats 800000 in
theorem add_p2 (k1 n1 : Int) (h1 : Num k1 n1) (h14 : (k1 == 4) = false) (w : World) :
    Calls Tryd.prog 77 #[vv k1 n1, vv 4 0] w fun e w' => e = .returned (.tuple #[vv 4 0, .bool true]) ∧ Below w.heap.size w w' := by
  go_enter Tryd.func77, Tryd.ntmps77
  go_wp2_with (first | (go_at_call 66; ((with_reducible refine (isNaN_not _ _ h1 h14 _).mono ?_); rintro e w' ⟨rfl, rfl⟩)) | (go_at_call 66; ((with_reducible refine (isNaN_nan _).mono ?_); rintro e w' ⟨rfl, rfl⟩)) | (go_at_call 92; ((with_reducible refine (nan_any _).mono ?_); rintro e w' ⟨rfl, rfl⟩)))
  all_goals exact bodyPost_ret (v := .tuple #[vv 4 0, .bool true]) (by simp [results, Tryd.results77, go_sem]) rfl ⟨rfl, by repeat (first | (with_reducible refine blw_alloc _ ?_) | (with_reducible refine Below.drew ?_) | (with_reducible exact Below.refl _ _))⟩

set_option maxHeartbeats 800000 in
theorem add_q0  (w : World) :
    Calls Tryd.prog 77 #[vv 5 1, vv 5 1] w fun e w' => e = .returned (.tuple #[vv 5 1, .bool true]) ∧ Below w.heap.size w w' := by
  go_enter Tryd.func77, Tryd.ntmps77
  go_wp2_with (first | (go_at_call 66; ((with_reducible refine (isNaN_not 5 1 (by unfold Num; omega) rfl _).mono ?_); rintro e w' ⟨rfl, rfl⟩)) | (go_at_call 66; ((with_reducible refine (isNaN_not 5 (-1) (by unfold Num; omega) rfl _).mono ?_); rintro e w' ⟨rfl, rfl⟩)) | (go_at_call 91; ((with_reducible refine (isInf_any _ _ _).mono ?_); rintro e w' ⟨rfl, rfl⟩)) | (go_at_call 92; ((with_reducible refine (nan_any _).mono ?_); rintro e w' ⟨rfl, rfl⟩)))
  all_goals exact bodyPost_ret (v := .tuple #[vv 5 1, .bool true]) (by simp [results, Tryd.results77, go_sem]) rfl ⟨rfl, by repeat (first | (with_reducible refine blw_alloc _ ?_) | (with_reducible refine Below.drew ?_) | (with_reducible exact Below.refl _ _))⟩

set_option maxHeartbeats 800000 in
theorem add_q1  (w : World) :
    Calls Tryd.prog 77 #[vv 5 1, vv 5 (-1)] w fun e w' => e = .returned (.tuple #[vv 4 0, .bool true]) ∧ Below w.heap.size w w' := by
  go_enter Tryd.func77, Tryd.ntmps77
  go_wp2_with (first | (go_at_call 66; ((with_reducible refine (isNaN_not 5 1 (by unfold Num; omega) rfl _).mono ?_); rintro e w' ⟨rfl, rfl⟩)) | (go_at_call 66; ((with_reducible refine (isNaN_not 5 (-1) (by unfold Num; omega) rfl _).mono ?_); rintro e w' ⟨rfl, rfl⟩)) | (go_at_call 91; ((with_reducible refine (isInf_any _ _ _).mono ?_); rintro e w' ⟨rfl, rfl⟩)) | (go_at_call 92; ((with_reducible refine (nan_any _).mono ?_); rintro e w' ⟨rfl, rfl⟩)))
  all_goals exact bodyPost_ret (v := .tuple #[vv 4 0, .bool true]) (by simp [results, Tryd.results77, go_sem]) rfl ⟨rfl, by repeat (first | (with_reducible refine blw_alloc _ ?_) | (with_reducible refine Below.drew ?_) | (with_reducible exact Below.refl _ _))⟩

set_option maxHeartbeats 800000 in
theorem add_q2  (w : World) :
    Calls Tryd.prog 77 #[vv 5 (-1), vv 5 1] w fun e w' => e = .returned (.tuple #[vv 4 0, .bool true]) ∧ Below w.heap.size w w' := by
  go_enter Tryd.func77, Tryd.ntmps77
  go_wp2_with (first | (go_at_call 66; ((with_reducible refine (isNaN_not 5 1 (by unfold Num; omega) rfl _).mono ?_); rintro e w' ⟨rfl, rfl⟩)) | (go_at_call 66; ((with_reducible refine (isNaN_not 5 (-1) (by unfold Num; omega) rfl _).mono ?_); rintro e w' ⟨rfl, rfl⟩)) | (go_at_call 91; ((with_reducible refine (isInf_any _ _ _).mono ?_); rintro e w' ⟨rfl, rfl⟩)) | (go_at_call 92; ((with_reducible refine (nan_any _).mono ?_); rintro e w' ⟨rfl, rfl⟩)))
  all_goals exact bodyPost_ret (v := .tuple #[vv 4 0, .bool true]) (by simp [results, Tryd.results77, go_sem]) rfl ⟨rfl, by repeat (first | (with_reducible refine blw_alloc _ ?_) | (with_reducible refine Below.drew ?_) | (with_reducible exact Below.refl _ _))⟩

set_option maxHeartbeats 800000 in
theorem add_q3  (w : World) :
    Calls Tryd.prog 77 #[vv 5 (-1), vv 5 (-1)] w fun e w' => e = .returned (.tuple #[vv 5 (-1), .bool true]) ∧ Below w.heap.size w w' := by
  go_enter Tryd.func77, Tryd.ntmps77
  go_wp2_with (first | (go_at_call 66; ((with_reducible refine (isNaN_not 5 1 (by unfold Num; omega) rfl _).mono ?_); rintro e w' ⟨rfl, rfl⟩)) | (go_at_call 66; ((with_reducible refine (isNaN_not 5 (-1) (by unfold Num; omega) rfl _).mono ?_); rintro e w' ⟨rfl, rfl⟩)) | (go_at_call 91; ((with_reducible refine (isInf_any _ _ _).mono ?_); rintro e w' ⟨rfl, rfl⟩)) | (go_at_call 92; ((with_reducible refine (nan_any _).mono ?_); rintro e w' ⟨rfl, rfl⟩)))
  all_goals exact bodyPost_ret (v := .tuple #[vv 5 (-1), .bool true]) (by simp [results, Tryd.results77, go_sem]) rfl ⟨rfl, by repeat (first | (with_reducible refine blw_alloc _ ?_) | (with_reducible refine Below.drew ?_) | (with_reducible exact Below.refl _ _))⟩

set_option maxHeartbeats 800000 in
theorem add_p5 (k1 n1 k2 n2 : Int) (h1 : Num k1 n1) (h2 : Num k2 n2) (h14 : (k1 == 4) = false) (h24 : (k2 == 4) = false) (h15 : (k1 == 5) = true) (h25 : (k2 == 5) = false) (w : World) :
    Calls Tryd.prog 77 #[vv k1 n1, vv k2 n2] w fun e w' => e = .returned (.tuple #[vv k1 n1, .bool true]) ∧ Below w.heap.size w w' := by
  go_enter Tryd.func77, Tryd.ntmps77
  go_wp2_with (first | (go_at_call 66; ((with_reducible refine (isNaN_not _ _ h1 h14 _).mono ?_); rintro e w' ⟨rfl, rfl⟩)) | (go_at_call 66; ((with_reducible refine (isNaN_not _ _ h2 h24 _).mono ?_); rintro e w' ⟨rfl, rfl⟩)) | (go_at_call 91; ((with_reducible refine (isInf_any _ _ _).mono ?_); rintro e w' ⟨rfl, rfl⟩)) | (go_at_call 92; ((with_reducible refine (nan_any _).mono ?_); rintro e w' ⟨rfl, rfl⟩)))
  all_goals exact bodyPost_ret (v := .tuple #[vv k1 n1, .bool true]) (by simp [results, Tryd.results77, go_sem]) rfl ⟨rfl, by repeat (first | (with_reducible refine blw_alloc _ ?_) | (with_reducible refine Below.drew ?_) | (with_reducible exact Below.refl _ _))⟩

set_option maxHeartbeats 800000 in
theorem add_p6 (k1 n1 k2 n2 : Int) (h1 : Num k1 n1) (h2 : Num k2 n2) (h14 : (k1 == 4) = false) (h24 : (k2 == 4) = false) (h15 : (k1 == 5) = false) (h26 : (k2 == 6) = true) (w : World) :
    Calls Tryd.prog 77 #[vv k1 n1, vv k2 n2] w fun e w' => e = .returned (.tuple #[vv k1 n1, .bool true]) ∧ Below w.heap.size w w' := by
  go_enter Tryd.func77, Tryd.ntmps77
  go_wp2_with (first | (go_at_call 66; ((with_reducible refine (isNaN_not _ _ h1 h14 _).mono ?_); rintro e w' ⟨rfl, rfl⟩)) | (go_at_call 66; ((with_reducible refine (isNaN_not _ _ h2 h24 _).mono ?_); rintro e w' ⟨rfl, rfl⟩)) | (go_at_call 91; ((with_reducible refine (isInf_any _ _ _).mono ?_); rintro e w' ⟨rfl, rfl⟩)) | (go_at_call 92; ((with_reducible refine (nan_any _).mono ?_); rintro e w' ⟨rfl, rfl⟩)))
  all_goals exact bodyPost_ret (v := .tuple #[vv k1 n1, .bool true]) (by simp [results, Tryd.results77, go_sem]) rfl ⟨rfl, by repeat (first | (with_reducible refine blw_alloc _ ?_) | (with_reducible refine Below.drew ?_) | (with_reducible exact Below.refl _ _))⟩

set_option maxHeartbeats 800000 in
theorem add_p7 (k1 n1 k2 n2 : Int) (h1 : Num k1 n1) (h2 : Num k2 n2) (h14 : (k1 == 4) = false) (h24 : (k2 == 4) = false) (h15 : (k1 == 5) = false) (h26 : (k2 == 6) = false) (h25 : (k2 == 5) = true) (w : World) :
    Calls Tryd.prog 77 #[vv k1 n1, vv k2 n2] w fun e w' => e = .returned (.tuple #[vv k2 n2, .bool true]) ∧ Below w.heap.size w w' := by
  go_enter Tryd.func77, Tryd.ntmps77
  go_wp2_with (first | (go_at_call 66; ((with_reducible refine (isNaN_not _ _ h1 h14 _).mono ?_); rintro e w' ⟨rfl, rfl⟩)) | (go_at_call 66; ((with_reducible refine (isNaN_not _ _ h2 h24 _).mono ?_); rintro e w' ⟨rfl, rfl⟩)) | (go_at_call 91; ((with_reducible refine (isInf_any _ _ _).mono ?_); rintro e w' ⟨rfl, rfl⟩)) | (go_at_call 92; ((with_reducible refine (nan_any _).mono ?_); rintro e w' ⟨rfl, rfl⟩)))
  all_goals exact bodyPost_ret (v := .tuple #[vv k2 n2, .bool true]) (by simp [results, Tryd.results77, go_sem]) rfl ⟨rfl, by repeat (first | (with_reducible refine blw_alloc _ ?_) | (with_reducible refine Below.drew ?_) | (with_reducible exact Below.refl _ _))⟩

set_option maxHeartbeats 800000 in
theorem add_p8 (k1 n1 k2 n2 : Int) (h1 : Num k1 n1) (h2 : Num k2 n2) (h14 : (k1 == 4) = false) (h24 : (k2 == 4) = false) (h15 : (k1 == 5) = false) (h16 : (k1 == 6) = true) (h26 : (k2 == 6) = false) (h25 : (k2 == 5) = false) (w : World) :
    Calls Tryd.prog 77 #[vv k1 n1, vv k2 n2] w fun e w' => e = .returned (.tuple #[vv k2 n2, .bool true]) ∧ Below w.heap.size w w' := by
  go_enter Tryd.func77, Tryd.ntmps77
  go_wp2_with (first | (go_at_call 66; ((with_reducible refine (isNaN_not _ _ h1 h14 _).mono ?_); rintro e w' ⟨rfl, rfl⟩)) | (go_at_call 66; ((with_reducible refine (isNaN_not _ _ h2 h24 _).mono ?_); rintro e w' ⟨rfl, rfl⟩)) | (go_at_call 91; ((with_reducible refine (isInf_any _ _ _).mono ?_); rintro e w' ⟨rfl, rfl⟩)) | (go_at_call 92; ((with_reducible refine (nan_any _).mono ?_); rintro e w' ⟨rfl, rfl⟩)))
  all_goals exact bodyPost_ret (v := .tuple #[vv k2 n2, .bool true]) (by simp [results, Tryd.results77, go_sem]) rfl ⟨rfl, by repeat (first | (with_reducible refine blw_alloc _ ?_) | (with_reducible refine Below.drew ?_) | (with_reducible exact Below.refl _ _))⟩

set_option maxHeartbeats 800000 in
theorem add_p9 (n1 n2 : Int) (h1 : Num 3 n1) (h2 : Num 3 n2) (hb1 : -9007199254740991 ≤ n1 + n2) (hb2 : n1 + n2 ≤ 9007199254740991) (w : World) :
    Calls Tryd.prog 77 #[vv 3 n1, vv 3 n2] w fun e w' => e = .returned (.tuple #[vv 3 (n1 + n2), .bool true]) ∧ Below w.heap.size w w' := by
  go_enter Tryd.func77, Tryd.ntmps77
  go_wp2_with (first | (go_at_call 66; ((with_reducible refine (isNaN_not _ _ h1 rfl _).mono ?_); rintro e w' ⟨rfl, rfl⟩)) | (go_at_call 66; ((with_reducible refine (isNaN_not _ _ h2 rfl _).mono ?_); rintro e w' ⟨rfl, rfl⟩)) | (go_at_call 91; ((with_reducible refine (isInf_any _ _ _).mono ?_); rintro e w' ⟨rfl, rfl⟩)) | (go_at_call 93; ((with_reducible refine (int_in2 _ hb1 hb2 _).mono ?_); rintro e w' ⟨rfl, rfl⟩)))
  all_goals exact bodyPost_ret (v := .tuple #[vv 3 (n1 + n2), .bool true]) (by simp [results, Tryd.results77, go_sem]) rfl ⟨rfl, by repeat (first | (with_reducible refine blw_alloc _ ?_) | (with_reducible refine Below.drew ?_) | (with_reducible exact Below.refl _ _))⟩

set_option maxHeartbeats 800000 in
theorem add_p10 (n1 n2 : Int) (h1 : Num 3 n1) (h2 : Num 3 n2) (_h11 : -9007199254740991 ≤ n1) (_h12 : n1 ≤ 9007199254740991) (_h21 : -9007199254740991 ≤ n2) (_h22 : n2 ≤ 9007199254740991) (hb : n1 + n2 < -9007199254740991 ∨ 9007199254740991 < n1 + n2) (w : World) :
    Calls Tryd.prog 77 #[vv 3 n1, vv 3 n2] w fun e w' => e = .returned (.tuple #[vv 0 0, .bool false]) ∧ Below w.heap.size w w' := by
  go_enter Tryd.func77, Tryd.ntmps77
  go_wp2_with (first | (go_at_call 66; ((with_reducible refine (isNaN_not _ _ h1 rfl _).mono ?_); rintro e w' ⟨rfl, rfl⟩)) | (go_at_call 66; ((with_reducible refine (isNaN_not _ _ h2 rfl _).mono ?_); rintro e w' ⟨rfl, rfl⟩)) | (go_at_call 91; ((with_reducible refine (isInf_any _ _ _).mono ?_); rintro e w' ⟨rfl, rfl⟩)) | (go_at_call 93; ((with_reducible refine (int_out2 _ hb _).mono ?_); rintro e w' ⟨rfl, rfl⟩)))
  all_goals exact bodyPost_ret (v := .tuple #[vv 0 0, .bool false]) (by simp [results, Tryd.results77, go_sem]) rfl ⟨rfl, by repeat (first | (with_reducible refine blw_alloc _ ?_) | (with_reducible refine Below.drew ?_) | (with_reducible exact Below.refl _ _))⟩

/-- What num.Add answers: kind, number, and whether it is there. -/
def addR (k1 n1 k2 n2 : Int) : Int × Int × Bool :=
  if k1 = 4 ∨ k2 = 4 ∨ k1 = 5 ∧ k2 = 5 ∧ n1 ≠ n2 then (4, 0, true)
  else if k1 = 5 ∨ k2 = 6 then (k1, n1, true)
  else if k2 = 5 ∨ k1 = 6 then (k2, n2, true)
  else if -9007199254740991 ≤ n1 + n2 ∧ n1 + n2 ≤ 9007199254740991 then (3, n1 + n2, true) else (0, 0, false)

theorem num_int2 (k n : Int) (h : Num k n) (h4 : k ≠ 4) (h5 : k ≠ 5) (h6 : k ≠ 6) : k = 3 := by
  unfold Num at h; omega
theorem num_inf (n : Int) (h : Num 5 n) : n = 1 ∨ n = -1 := by unfold Num at h; omega

theorem add_any (k1 n1 k2 n2 : Int) (h1 : Num k1 n1) (h2 : Num k2 n2) (w : World) :
    Calls Tryd.prog 77 #[vv k1 n1, vv k2 n2] w fun e w' => e = .returned (vr (addR k1 n1 k2 n2)) ∧ Below w.heap.size w w' := by
  unfold addR
  by_cases a4 : k1 = 4
  · subst a4; rw [num_nan 4 n1 h1 rfl, if_pos (Or.inl rfl)]; exact add_p1 k2 n2 w
  have a4b : (k1 == 4) = false := by simpa using a4
  by_cases b4 : k2 = 4
  · subst b4; rw [num_nan 4 n2 h2 rfl, if_pos (Or.inr (Or.inl rfl))]; exact add_p2 k1 n1 h1 a4b w
  have b4b : (k2 == 4) = false := by simpa using b4
  by_cases a5 : k1 = 5
  · by_cases b5 : k2 = 5
    · subst a5 b5
      rcases num_inf n1 h1 with rfl | rfl <;> rcases num_inf n2 h2 with rfl | rfl
      · exact add_q0 w
      · exact add_q1 w
      · exact add_q2 w
      · exact add_q3 w
    · rw [if_neg (by rintro (h | h | ⟨_, h, _⟩) <;> first | exact a4 h | exact b4 h | exact b5 h), if_pos (Or.inl a5)]
      exact add_p5 k1 n1 k2 n2 h1 h2 a4b b4b (by simpa using a5) (by simpa using b5) w
  have a5b : (k1 == 5) = false := by simpa using a5
  rw [if_neg (by rintro (h | h | ⟨h, _⟩) <;> first | exact a4 h | exact b4 h | exact a5 h)]
  by_cases b6 : k2 = 6
  · rw [if_pos (Or.inr b6)]; exact add_p6 k1 n1 k2 n2 h1 h2 a4b b4b a5b (by simpa using b6) w
  have b6b : (k2 == 6) = false := by simpa using b6
  rw [if_neg (by rintro (h | h) <;> first | exact a5 h | exact b6 h)]
  by_cases b5 : k2 = 5
  · rw [if_pos (Or.inl b5)]; exact add_p7 k1 n1 k2 n2 h1 h2 a4b b4b a5b b6b (by simpa using b5) w
  by_cases a6 : k1 = 6
  · rw [if_pos (Or.inr a6)]; exact add_p8 k1 n1 k2 n2 h1 h2 a4b b4b a5b (by simpa using a6) b6b (by simpa using b5) w
  rw [if_neg (by rintro (h | h) <;> first | exact b5 h | exact a6 h)]
  obtain rfl := num_int2 k1 n1 h1 a4 a5 a6
  obtain rfl := num_int2 k2 n2 h2 b4 b5 b6
  by_cases hc : -9007199254740991 ≤ n1 + n2 ∧ n1 + n2 ≤ 9007199254740991
  · rw [if_pos hc]; exact add_p9 n1 n2 h1 h2 hc.1 hc.2 w
  · rw [if_neg hc]; exact add_p10 n1 n2 h1 h2 (by unfold Num at h1; omega) (by unfold Num at h1; omega) (by unfold Num at h2; omega) (by unfold Num at h2; omega) (by omega) w
end Go.Proofs.YtbkgophgclpijaaDoor.M
