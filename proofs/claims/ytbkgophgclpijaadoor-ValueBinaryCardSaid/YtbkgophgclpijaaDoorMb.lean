/- The contract of num.Mul: it returns what the chapter specifies, for all numbers. -/
import Derived.Test.YtbkgophgclpijaaDoorMa
import Derived.Deep.RegionHeld3
import Derived.Outline
namespace Go.Proofs.YtbkgophgclpijaaDoor.M
open Go.RowKit



set_option maxHeartbeats 800000 in
theorem mul_p1 (k2 n2 : Int) (w : World) :
    Calls Tryd.prog 79 #[vv 4 0, vv k2 n2] w fun e w' => e = .returned (.tuple #[vv 4 0, .bool true]) ∧ Below w.heap.size w w' := by
  go_enter Tryd.func79, Tryd.ntmps79
  go_wp2
  go_region_held3 (fun w' => w'.cell? ⟨w.heap.size, 0, none⟩ = some (.int .i64 4) ∧ w'.cell? ⟨w.heap.size, 1, none⟩ = some (.int .i64 0) ∧ w'.cell? ⟨w.heap.size, 2, none⟩ = some (.string ⟨#[]⟩) ∧ w'.cell? ⟨w.heap.size + 1, 0, none⟩ = some (.int .i64 k2) ∧ w'.cell? ⟨w.heap.size + 1, 1, none⟩ = some (.int .i64 n2) ∧ w'.cell? ⟨w.heap.size + 1, 2, none⟩ = some (.string ⟨#[]⟩)) (go_simp)
    (first | (go_at_call 95; refine (isNegative_any _ _ _).mono ?_; rintro e w' ⟨rfl, rfl⟩))
  all_goals go_wp2_with (first | (go_at_call 66; ((with_reducible refine (isNaN_nan _).mono ?_); rintro e w' ⟨rfl, rfl⟩)) | (go_at_call 92; ((with_reducible refine (nan_any _).mono ?_); rintro e w' ⟨rfl, rfl⟩)))
  all_goals exact bodyPost_ret (v := .tuple #[vv 4 0, .bool true]) (by simp [results, Tryd.results79, go_sem]) rfl ⟨rfl, by repeat (first | (with_reducible refine blw_alloc _ ?_) | (with_reducible refine Below.drew ?_) | (with_reducible exact Below.refl _ _))⟩

set_option maxHeartbeats 800000 in
theorem mul_p2 (k1 n1 : Int) (h1 : Num k1 n1) (h14 : (k1 == 4) = false) (w : World) :
    Calls Tryd.prog 79 #[vv k1 n1, vv 4 0] w fun e w' => e = .returned (.tuple #[vv 4 0, .bool true]) ∧ Below w.heap.size w w' := by
  go_enter Tryd.func79, Tryd.ntmps79
  go_wp2
  go_region_held3 (fun w' => w'.cell? ⟨w.heap.size, 0, none⟩ = some (.int .i64 k1) ∧ w'.cell? ⟨w.heap.size, 1, none⟩ = some (.int .i64 n1) ∧ w'.cell? ⟨w.heap.size, 2, none⟩ = some (.string ⟨#[]⟩) ∧ w'.cell? ⟨w.heap.size + 1, 0, none⟩ = some (.int .i64 4) ∧ w'.cell? ⟨w.heap.size + 1, 1, none⟩ = some (.int .i64 0) ∧ w'.cell? ⟨w.heap.size + 1, 2, none⟩ = some (.string ⟨#[]⟩)) (go_simp)
    (first | (go_at_call 95; refine (isNegative_any _ _ _).mono ?_; rintro e w' ⟨rfl, rfl⟩))
  all_goals go_wp2_with (first | (go_at_call 66; ((with_reducible refine (isNaN_not _ _ h1 h14 _).mono ?_); rintro e w' ⟨rfl, rfl⟩)) | (go_at_call 66; ((with_reducible refine (isNaN_nan _).mono ?_); rintro e w' ⟨rfl, rfl⟩)) | (go_at_call 92; ((with_reducible refine (nan_any _).mono ?_); rintro e w' ⟨rfl, rfl⟩)))
  all_goals exact bodyPost_ret (v := .tuple #[vv 4 0, .bool true]) (by simp [results, Tryd.results79, go_sem]) rfl ⟨rfl, by repeat (first | (with_reducible refine blw_alloc _ ?_) | (with_reducible refine Below.drew ?_) | (with_reducible exact Below.refl _ _))⟩

set_option maxHeartbeats 800000 in
theorem mul_p3 (k1 n1 k2 n2 : Int) (h1 : Num k1 n1) (h2 : Num k2 n2) (h14 : (k1 == 4) = false) (h24 : (k2 == 4) = false) (h15 : (k1 == 5) = true) (h2z : zerB k2 n2 = true) (w : World) :
    Calls Tryd.prog 79 #[vv k1 n1, vv k2 n2] w fun e w' => e = .returned (.tuple #[vv 4 0, .bool true]) ∧ Below w.heap.size w w' := by
  go_enter Tryd.func79, Tryd.ntmps79
  go_wp2
  go_region_held3 (fun w' => w'.cell? ⟨w.heap.size, 0, none⟩ = some (.int .i64 k1) ∧ w'.cell? ⟨w.heap.size, 1, none⟩ = some (.int .i64 n1) ∧ w'.cell? ⟨w.heap.size, 2, none⟩ = some (.string ⟨#[]⟩) ∧ w'.cell? ⟨w.heap.size + 1, 0, none⟩ = some (.int .i64 k2) ∧ w'.cell? ⟨w.heap.size + 1, 1, none⟩ = some (.int .i64 n2) ∧ w'.cell? ⟨w.heap.size + 1, 2, none⟩ = some (.string ⟨#[]⟩)) (go_simp)
    (first | (go_at_call 95; refine (isNegative_any _ _ _).mono ?_; rintro e w' ⟨rfl, rfl⟩))
  all_goals go_wp2_with (first | (go_at_call 66; ((with_reducible refine (isNaN_not _ _ h1 h14 _).mono ?_); rintro e w' ⟨rfl, rfl⟩)) | (go_at_call 66; ((with_reducible refine (isNaN_not _ _ h2 h24 _).mono ?_); rintro e w' ⟨rfl, rfl⟩)) | (go_at_call 91; ((with_reducible refine (isInf_any _ _ _).mono ?_); rintro e w' ⟨rfl, rfl⟩)) | (go_at_call 96; ((with_reducible refine (isZero_any _ _ _).mono ?_); rintro e w' ⟨rfl, rfl⟩)) | (go_at_call 97; ((with_reducible refine (infinity_any _ _).mono ?_); rintro e w' ⟨rfl, rfl⟩)) | (go_at_call 98; ((with_reducible refine (zero_pos _).mono ?_); rintro e w' ⟨rfl, rfl⟩)) | (go_at_call 98; ((with_reducible refine (zero_neg _).mono ?_); rintro e w' ⟨rfl, rfl⟩)) | (go_at_call 92; ((with_reducible refine (nan_any _).mono ?_); rintro e w' ⟨rfl, rfl⟩)))
  all_goals exact bodyPost_ret (v := .tuple #[vv 4 0, .bool true]) (by simp [results, Tryd.results79, go_sem]) rfl ⟨rfl, by repeat (first | (with_reducible refine blw_alloc _ ?_) | (with_reducible refine Below.drew ?_) | (with_reducible exact Below.refl _ _))⟩

set_option maxHeartbeats 800000 in
theorem mul_p4 (k1 n1 k2 n2 : Int) (h1 : Num k1 n1) (h2 : Num k2 n2) (h14 : (k1 == 4) = false) (h24 : (k2 == 4) = false) (h15 : (k1 == 5) = false) (h1z : zerB k1 n1 = true) (h25 : (k2 == 5) = true) (w : World) :
    Calls Tryd.prog 79 #[vv k1 n1, vv k2 n2] w fun e w' => e = .returned (.tuple #[vv 4 0, .bool true]) ∧ Below w.heap.size w w' := by
  go_enter Tryd.func79, Tryd.ntmps79
  go_wp2
  go_region_held3 (fun w' => w'.cell? ⟨w.heap.size, 0, none⟩ = some (.int .i64 k1) ∧ w'.cell? ⟨w.heap.size, 1, none⟩ = some (.int .i64 n1) ∧ w'.cell? ⟨w.heap.size, 2, none⟩ = some (.string ⟨#[]⟩) ∧ w'.cell? ⟨w.heap.size + 1, 0, none⟩ = some (.int .i64 k2) ∧ w'.cell? ⟨w.heap.size + 1, 1, none⟩ = some (.int .i64 n2) ∧ w'.cell? ⟨w.heap.size + 1, 2, none⟩ = some (.string ⟨#[]⟩)) (go_simp)
    (first | (go_at_call 95; refine (isNegative_any _ _ _).mono ?_; rintro e w' ⟨rfl, rfl⟩))
  all_goals go_wp2_with (first | (go_at_call 66; ((with_reducible refine (isNaN_not _ _ h1 h14 _).mono ?_); rintro e w' ⟨rfl, rfl⟩)) | (go_at_call 66; ((with_reducible refine (isNaN_not _ _ h2 h24 _).mono ?_); rintro e w' ⟨rfl, rfl⟩)) | (go_at_call 91; ((with_reducible refine (isInf_any _ _ _).mono ?_); rintro e w' ⟨rfl, rfl⟩)) | (go_at_call 96; ((with_reducible refine (isZero_any _ _ _).mono ?_); rintro e w' ⟨rfl, rfl⟩)) | (go_at_call 97; ((with_reducible refine (infinity_any _ _).mono ?_); rintro e w' ⟨rfl, rfl⟩)) | (go_at_call 98; ((with_reducible refine (zero_pos _).mono ?_); rintro e w' ⟨rfl, rfl⟩)) | (go_at_call 98; ((with_reducible refine (zero_neg _).mono ?_); rintro e w' ⟨rfl, rfl⟩)) | (go_at_call 92; ((with_reducible refine (nan_any _).mono ?_); rintro e w' ⟨rfl, rfl⟩)))
  all_goals exact bodyPost_ret (v := .tuple #[vv 4 0, .bool true]) (by simp [results, Tryd.results79, go_sem]) rfl ⟨rfl, by repeat (first | (with_reducible refine blw_alloc _ ?_) | (with_reducible refine Below.drew ?_) | (with_reducible exact Below.refl _ _))⟩

set_option maxHeartbeats 800000 in
theorem mul_p5 (k1 n1 k2 n2 : Int) (h1 : Num k1 n1) (h2 : Num k2 n2) (h14 : (k1 == 4) = false) (h24 : (k2 == 4) = false) (h15 : (k1 == 5) = true) (h1z : zerB k1 n1 = false) (h2z : zerB k2 n2 = false) (w : World) :
    Calls Tryd.prog 79 #[vv k1 n1, vv k2 n2] w fun e w' => e = .returned (.tuple #[vv 5 (if negB k1 n1 != negB k2 n2 then -1 else 1), .bool true]) ∧ Below w.heap.size w w' := by
  rcases hb1 : negB k1 n1 with _ | _ <;> rcases hb2 : negB k2 n2 with _ | _
  · go_enter Tryd.func79, Tryd.ntmps79
    go_wp2
    go_region_held3 (fun w' => w'.cell? ⟨w.heap.size, 0, none⟩ = some (.int .i64 k1) ∧ w'.cell? ⟨w.heap.size, 1, none⟩ = some (.int .i64 n1) ∧ w'.cell? ⟨w.heap.size, 2, none⟩ = some (.string ⟨#[]⟩) ∧ w'.cell? ⟨w.heap.size + 1, 0, none⟩ = some (.int .i64 k2) ∧ w'.cell? ⟨w.heap.size + 1, 1, none⟩ = some (.int .i64 n2) ∧ w'.cell? ⟨w.heap.size + 1, 2, none⟩ = some (.string ⟨#[]⟩)) (go_simp)
      (first | (go_at_call 95; refine (isNegative_any _ _ _).mono ?_; rintro e w' ⟨rfl, rfl⟩))
    all_goals go_wp2_with (first | (go_at_call 66; ((with_reducible refine (isNaN_not _ _ h1 h14 _).mono ?_); rintro e w' ⟨rfl, rfl⟩)) | (go_at_call 66; ((with_reducible refine (isNaN_not _ _ h2 h24 _).mono ?_); rintro e w' ⟨rfl, rfl⟩)) | (go_at_call 91; ((with_reducible refine (isInf_any _ _ _).mono ?_); rintro e w' ⟨rfl, rfl⟩)) | (go_at_call 96; ((with_reducible refine (isZero_any _ _ _).mono ?_); rintro e w' ⟨rfl, rfl⟩)) | (go_at_call 97; ((with_reducible refine (infinity_any _ _).mono ?_); rintro e w' ⟨rfl, rfl⟩)) | (go_at_call 98; ((with_reducible refine (zero_pos _).mono ?_); rintro e w' ⟨rfl, rfl⟩)) | (go_at_call 98; ((with_reducible refine (zero_neg _).mono ?_); rintro e w' ⟨rfl, rfl⟩)) | (go_at_call 92; ((with_reducible refine (nan_any _).mono ?_); rintro e w' ⟨rfl, rfl⟩)))
    all_goals exact bodyPost_ret (v := .tuple #[vv 5 1, .bool true]) (by simp [results, Tryd.results79, go_sem]) rfl ⟨rfl, by repeat (first | (with_reducible refine blw_alloc _ ?_) | (with_reducible refine Below.drew ?_) | (with_reducible exact Below.refl _ _))⟩
  · go_enter Tryd.func79, Tryd.ntmps79
    go_wp2
    go_region_held3 (fun w' => w'.cell? ⟨w.heap.size, 0, none⟩ = some (.int .i64 k1) ∧ w'.cell? ⟨w.heap.size, 1, none⟩ = some (.int .i64 n1) ∧ w'.cell? ⟨w.heap.size, 2, none⟩ = some (.string ⟨#[]⟩) ∧ w'.cell? ⟨w.heap.size + 1, 0, none⟩ = some (.int .i64 k2) ∧ w'.cell? ⟨w.heap.size + 1, 1, none⟩ = some (.int .i64 n2) ∧ w'.cell? ⟨w.heap.size + 1, 2, none⟩ = some (.string ⟨#[]⟩)) (go_simp)
      (first | (go_at_call 95; refine (isNegative_any _ _ _).mono ?_; rintro e w' ⟨rfl, rfl⟩))
    all_goals go_wp2_with (first | (go_at_call 66; ((with_reducible refine (isNaN_not _ _ h1 h14 _).mono ?_); rintro e w' ⟨rfl, rfl⟩)) | (go_at_call 66; ((with_reducible refine (isNaN_not _ _ h2 h24 _).mono ?_); rintro e w' ⟨rfl, rfl⟩)) | (go_at_call 91; ((with_reducible refine (isInf_any _ _ _).mono ?_); rintro e w' ⟨rfl, rfl⟩)) | (go_at_call 96; ((with_reducible refine (isZero_any _ _ _).mono ?_); rintro e w' ⟨rfl, rfl⟩)) | (go_at_call 97; ((with_reducible refine (infinity_any _ _).mono ?_); rintro e w' ⟨rfl, rfl⟩)) | (go_at_call 98; ((with_reducible refine (zero_pos _).mono ?_); rintro e w' ⟨rfl, rfl⟩)) | (go_at_call 98; ((with_reducible refine (zero_neg _).mono ?_); rintro e w' ⟨rfl, rfl⟩)) | (go_at_call 92; ((with_reducible refine (nan_any _).mono ?_); rintro e w' ⟨rfl, rfl⟩)))
    all_goals exact bodyPost_ret (v := .tuple #[vv 5 (-1), .bool true]) (by simp [results, Tryd.results79, go_sem]) rfl ⟨rfl, by repeat (first | (with_reducible refine blw_alloc _ ?_) | (with_reducible refine Below.drew ?_) | (with_reducible exact Below.refl _ _))⟩
  · go_enter Tryd.func79, Tryd.ntmps79
    go_wp2
    go_region_held3 (fun w' => w'.cell? ⟨w.heap.size, 0, none⟩ = some (.int .i64 k1) ∧ w'.cell? ⟨w.heap.size, 1, none⟩ = some (.int .i64 n1) ∧ w'.cell? ⟨w.heap.size, 2, none⟩ = some (.string ⟨#[]⟩) ∧ w'.cell? ⟨w.heap.size + 1, 0, none⟩ = some (.int .i64 k2) ∧ w'.cell? ⟨w.heap.size + 1, 1, none⟩ = some (.int .i64 n2) ∧ w'.cell? ⟨w.heap.size + 1, 2, none⟩ = some (.string ⟨#[]⟩)) (go_simp)
      (first | (go_at_call 95; refine (isNegative_any _ _ _).mono ?_; rintro e w' ⟨rfl, rfl⟩))
    all_goals go_wp2_with (first | (go_at_call 66; ((with_reducible refine (isNaN_not _ _ h1 h14 _).mono ?_); rintro e w' ⟨rfl, rfl⟩)) | (go_at_call 66; ((with_reducible refine (isNaN_not _ _ h2 h24 _).mono ?_); rintro e w' ⟨rfl, rfl⟩)) | (go_at_call 91; ((with_reducible refine (isInf_any _ _ _).mono ?_); rintro e w' ⟨rfl, rfl⟩)) | (go_at_call 96; ((with_reducible refine (isZero_any _ _ _).mono ?_); rintro e w' ⟨rfl, rfl⟩)) | (go_at_call 97; ((with_reducible refine (infinity_any _ _).mono ?_); rintro e w' ⟨rfl, rfl⟩)) | (go_at_call 98; ((with_reducible refine (zero_pos _).mono ?_); rintro e w' ⟨rfl, rfl⟩)) | (go_at_call 98; ((with_reducible refine (zero_neg _).mono ?_); rintro e w' ⟨rfl, rfl⟩)) | (go_at_call 92; ((with_reducible refine (nan_any _).mono ?_); rintro e w' ⟨rfl, rfl⟩)))
    all_goals exact bodyPost_ret (v := .tuple #[vv 5 (-1), .bool true]) (by simp [results, Tryd.results79, go_sem]) rfl ⟨rfl, by repeat (first | (with_reducible refine blw_alloc _ ?_) | (with_reducible refine Below.drew ?_) | (with_reducible exact Below.refl _ _))⟩
  · go_enter Tryd.func79, Tryd.ntmps79
    go_wp2
    go_region_held3 (fun w' => w'.cell? ⟨w.heap.size, 0, none⟩ = some (.int .i64 k1) ∧ w'.cell? ⟨w.heap.size, 1, none⟩ = some (.int .i64 n1) ∧ w'.cell? ⟨w.heap.size, 2, none⟩ = some (.string ⟨#[]⟩) ∧ w'.cell? ⟨w.heap.size + 1, 0, none⟩ = some (.int .i64 k2) ∧ w'.cell? ⟨w.heap.size + 1, 1, none⟩ = some (.int .i64 n2) ∧ w'.cell? ⟨w.heap.size + 1, 2, none⟩ = some (.string ⟨#[]⟩)) (go_simp)
      (first | (go_at_call 95; refine (isNegative_any _ _ _).mono ?_; rintro e w' ⟨rfl, rfl⟩))
    all_goals go_wp2_with (first | (go_at_call 66; ((with_reducible refine (isNaN_not _ _ h1 h14 _).mono ?_); rintro e w' ⟨rfl, rfl⟩)) | (go_at_call 66; ((with_reducible refine (isNaN_not _ _ h2 h24 _).mono ?_); rintro e w' ⟨rfl, rfl⟩)) | (go_at_call 91; ((with_reducible refine (isInf_any _ _ _).mono ?_); rintro e w' ⟨rfl, rfl⟩)) | (go_at_call 96; ((with_reducible refine (isZero_any _ _ _).mono ?_); rintro e w' ⟨rfl, rfl⟩)) | (go_at_call 97; ((with_reducible refine (infinity_any _ _).mono ?_); rintro e w' ⟨rfl, rfl⟩)) | (go_at_call 98; ((with_reducible refine (zero_pos _).mono ?_); rintro e w' ⟨rfl, rfl⟩)) | (go_at_call 98; ((with_reducible refine (zero_neg _).mono ?_); rintro e w' ⟨rfl, rfl⟩)) | (go_at_call 92; ((with_reducible refine (nan_any _).mono ?_); rintro e w' ⟨rfl, rfl⟩)))
    all_goals exact bodyPost_ret (v := .tuple #[vv 5 1, .bool true]) (by simp [results, Tryd.results79, go_sem]) rfl ⟨rfl, by repeat (first | (with_reducible refine blw_alloc _ ?_) | (with_reducible refine Below.drew ?_) | (with_reducible exact Below.refl _ _))⟩

set_option maxHeartbeats 800000 in
theorem mul_p6 (k1 n1 k2 n2 : Int) (h1 : Num k1 n1) (h2 : Num k2 n2) (h14 : (k1 == 4) = false) (h24 : (k2 == 4) = false) (h15 : (k1 == 5) = false) (h1z : zerB k1 n1 = false) (h25 : (k2 == 5) = true) (w : World) :
    Calls Tryd.prog 79 #[vv k1 n1, vv k2 n2] w fun e w' => e = .returned (.tuple #[vv 5 (if negB k1 n1 != negB k2 n2 then -1 else 1), .bool true]) ∧ Below w.heap.size w w' := by
  rcases hb1 : negB k1 n1 with _ | _ <;> rcases hb2 : negB k2 n2 with _ | _
  · go_enter Tryd.func79, Tryd.ntmps79
    go_wp2
    go_region_held3 (fun w' => w'.cell? ⟨w.heap.size, 0, none⟩ = some (.int .i64 k1) ∧ w'.cell? ⟨w.heap.size, 1, none⟩ = some (.int .i64 n1) ∧ w'.cell? ⟨w.heap.size, 2, none⟩ = some (.string ⟨#[]⟩) ∧ w'.cell? ⟨w.heap.size + 1, 0, none⟩ = some (.int .i64 k2) ∧ w'.cell? ⟨w.heap.size + 1, 1, none⟩ = some (.int .i64 n2) ∧ w'.cell? ⟨w.heap.size + 1, 2, none⟩ = some (.string ⟨#[]⟩)) (go_simp)
      (first | (go_at_call 95; refine (isNegative_any _ _ _).mono ?_; rintro e w' ⟨rfl, rfl⟩))
    all_goals go_wp2_with (first | (go_at_call 66; ((with_reducible refine (isNaN_not _ _ h1 h14 _).mono ?_); rintro e w' ⟨rfl, rfl⟩)) | (go_at_call 66; ((with_reducible refine (isNaN_not _ _ h2 h24 _).mono ?_); rintro e w' ⟨rfl, rfl⟩)) | (go_at_call 91; ((with_reducible refine (isInf_any _ _ _).mono ?_); rintro e w' ⟨rfl, rfl⟩)) | (go_at_call 96; ((with_reducible refine (isZero_any _ _ _).mono ?_); rintro e w' ⟨rfl, rfl⟩)) | (go_at_call 97; ((with_reducible refine (infinity_any _ _).mono ?_); rintro e w' ⟨rfl, rfl⟩)) | (go_at_call 98; ((with_reducible refine (zero_pos _).mono ?_); rintro e w' ⟨rfl, rfl⟩)) | (go_at_call 98; ((with_reducible refine (zero_neg _).mono ?_); rintro e w' ⟨rfl, rfl⟩)) | (go_at_call 92; ((with_reducible refine (nan_any _).mono ?_); rintro e w' ⟨rfl, rfl⟩)))
    all_goals exact bodyPost_ret (v := .tuple #[vv 5 1, .bool true]) (by simp [results, Tryd.results79, go_sem]) rfl ⟨rfl, by repeat (first | (with_reducible refine blw_alloc _ ?_) | (with_reducible refine Below.drew ?_) | (with_reducible exact Below.refl _ _))⟩
  · go_enter Tryd.func79, Tryd.ntmps79
    go_wp2
    go_region_held3 (fun w' => w'.cell? ⟨w.heap.size, 0, none⟩ = some (.int .i64 k1) ∧ w'.cell? ⟨w.heap.size, 1, none⟩ = some (.int .i64 n1) ∧ w'.cell? ⟨w.heap.size, 2, none⟩ = some (.string ⟨#[]⟩) ∧ w'.cell? ⟨w.heap.size + 1, 0, none⟩ = some (.int .i64 k2) ∧ w'.cell? ⟨w.heap.size + 1, 1, none⟩ = some (.int .i64 n2) ∧ w'.cell? ⟨w.heap.size + 1, 2, none⟩ = some (.string ⟨#[]⟩)) (go_simp)
      (first | (go_at_call 95; refine (isNegative_any _ _ _).mono ?_; rintro e w' ⟨rfl, rfl⟩))
    all_goals go_wp2_with (first | (go_at_call 66; ((with_reducible refine (isNaN_not _ _ h1 h14 _).mono ?_); rintro e w' ⟨rfl, rfl⟩)) | (go_at_call 66; ((with_reducible refine (isNaN_not _ _ h2 h24 _).mono ?_); rintro e w' ⟨rfl, rfl⟩)) | (go_at_call 91; ((with_reducible refine (isInf_any _ _ _).mono ?_); rintro e w' ⟨rfl, rfl⟩)) | (go_at_call 96; ((with_reducible refine (isZero_any _ _ _).mono ?_); rintro e w' ⟨rfl, rfl⟩)) | (go_at_call 97; ((with_reducible refine (infinity_any _ _).mono ?_); rintro e w' ⟨rfl, rfl⟩)) | (go_at_call 98; ((with_reducible refine (zero_pos _).mono ?_); rintro e w' ⟨rfl, rfl⟩)) | (go_at_call 98; ((with_reducible refine (zero_neg _).mono ?_); rintro e w' ⟨rfl, rfl⟩)) | (go_at_call 92; ((with_reducible refine (nan_any _).mono ?_); rintro e w' ⟨rfl, rfl⟩)))
    all_goals exact bodyPost_ret (v := .tuple #[vv 5 (-1), .bool true]) (by simp [results, Tryd.results79, go_sem]) rfl ⟨rfl, by repeat (first | (with_reducible refine blw_alloc _ ?_) | (with_reducible refine Below.drew ?_) | (with_reducible exact Below.refl _ _))⟩
  · go_enter Tryd.func79, Tryd.ntmps79
    go_wp2
    go_region_held3 (fun w' => w'.cell? ⟨w.heap.size, 0, none⟩ = some (.int .i64 k1) ∧ w'.cell? ⟨w.heap.size, 1, none⟩ = some (.int .i64 n1) ∧ w'.cell? ⟨w.heap.size, 2, none⟩ = some (.string ⟨#[]⟩) ∧ w'.cell? ⟨w.heap.size + 1, 0, none⟩ = some (.int .i64 k2) ∧ w'.cell? ⟨w.heap.size + 1, 1, none⟩ = some (.int .i64 n2) ∧ w'.cell? ⟨w.heap.size + 1, 2, none⟩ = some (.string ⟨#[]⟩)) (go_simp)
      (first | (go_at_call 95; refine (isNegative_any _ _ _).mono ?_; rintro e w' ⟨rfl, rfl⟩))
    all_goals go_wp2_with (first | (go_at_call 66; ((with_reducible refine (isNaN_not _ _ h1 h14 _).mono ?_); rintro e w' ⟨rfl, rfl⟩)) | (go_at_call 66; ((with_reducible refine (isNaN_not _ _ h2 h24 _).mono ?_); rintro e w' ⟨rfl, rfl⟩)) | (go_at_call 91; ((with_reducible refine (isInf_any _ _ _).mono ?_); rintro e w' ⟨rfl, rfl⟩)) | (go_at_call 96; ((with_reducible refine (isZero_any _ _ _).mono ?_); rintro e w' ⟨rfl, rfl⟩)) | (go_at_call 97; ((with_reducible refine (infinity_any _ _).mono ?_); rintro e w' ⟨rfl, rfl⟩)) | (go_at_call 98; ((with_reducible refine (zero_pos _).mono ?_); rintro e w' ⟨rfl, rfl⟩)) | (go_at_call 98; ((with_reducible refine (zero_neg _).mono ?_); rintro e w' ⟨rfl, rfl⟩)) | (go_at_call 92; ((with_reducible refine (nan_any _).mono ?_); rintro e w' ⟨rfl, rfl⟩)))
    all_goals exact bodyPost_ret (v := .tuple #[vv 5 (-1), .bool true]) (by simp [results, Tryd.results79, go_sem]) rfl ⟨rfl, by repeat (first | (with_reducible refine blw_alloc _ ?_) | (with_reducible refine Below.drew ?_) | (with_reducible exact Below.refl _ _))⟩
  · go_enter Tryd.func79, Tryd.ntmps79
    go_wp2
    go_region_held3 (fun w' => w'.cell? ⟨w.heap.size, 0, none⟩ = some (.int .i64 k1) ∧ w'.cell? ⟨w.heap.size, 1, none⟩ = some (.int .i64 n1) ∧ w'.cell? ⟨w.heap.size, 2, none⟩ = some (.string ⟨#[]⟩) ∧ w'.cell? ⟨w.heap.size + 1, 0, none⟩ = some (.int .i64 k2) ∧ w'.cell? ⟨w.heap.size + 1, 1, none⟩ = some (.int .i64 n2) ∧ w'.cell? ⟨w.heap.size + 1, 2, none⟩ = some (.string ⟨#[]⟩)) (go_simp)
      (first | (go_at_call 95; refine (isNegative_any _ _ _).mono ?_; rintro e w' ⟨rfl, rfl⟩))
    all_goals go_wp2_with (first | (go_at_call 66; ((with_reducible refine (isNaN_not _ _ h1 h14 _).mono ?_); rintro e w' ⟨rfl, rfl⟩)) | (go_at_call 66; ((with_reducible refine (isNaN_not _ _ h2 h24 _).mono ?_); rintro e w' ⟨rfl, rfl⟩)) | (go_at_call 91; ((with_reducible refine (isInf_any _ _ _).mono ?_); rintro e w' ⟨rfl, rfl⟩)) | (go_at_call 96; ((with_reducible refine (isZero_any _ _ _).mono ?_); rintro e w' ⟨rfl, rfl⟩)) | (go_at_call 97; ((with_reducible refine (infinity_any _ _).mono ?_); rintro e w' ⟨rfl, rfl⟩)) | (go_at_call 98; ((with_reducible refine (zero_pos _).mono ?_); rintro e w' ⟨rfl, rfl⟩)) | (go_at_call 98; ((with_reducible refine (zero_neg _).mono ?_); rintro e w' ⟨rfl, rfl⟩)) | (go_at_call 92; ((with_reducible refine (nan_any _).mono ?_); rintro e w' ⟨rfl, rfl⟩)))
    all_goals exact bodyPost_ret (v := .tuple #[vv 5 1, .bool true]) (by simp [results, Tryd.results79, go_sem]) rfl ⟨rfl, by repeat (first | (with_reducible refine blw_alloc _ ?_) | (with_reducible refine Below.drew ?_) | (with_reducible exact Below.refl _ _))⟩

set_option maxHeartbeats 800000 in
theorem mul_p7 (k1 n1 k2 n2 : Int) (h1 : Num k1 n1) (h2 : Num k2 n2) (h14 : (k1 == 4) = false) (h24 : (k2 == 4) = false) (h15 : (k1 == 5) = false) (h1z : zerB k1 n1 = true) (h25 : (k2 == 5) = false) (w : World) :
    Calls Tryd.prog 79 #[vv k1 n1, vv k2 n2] w fun e w' => e = .returned (.tuple #[vv (if negB k1 n1 != negB k2 n2 then 6 else 3) 0, .bool true]) ∧ Below w.heap.size w w' := by
  rcases hb1 : negB k1 n1 with _ | _ <;> rcases hb2 : negB k2 n2 with _ | _
  · go_enter Tryd.func79, Tryd.ntmps79
    go_wp2
    go_region_held3 (fun w' => w'.cell? ⟨w.heap.size, 0, none⟩ = some (.int .i64 k1) ∧ w'.cell? ⟨w.heap.size, 1, none⟩ = some (.int .i64 n1) ∧ w'.cell? ⟨w.heap.size, 2, none⟩ = some (.string ⟨#[]⟩) ∧ w'.cell? ⟨w.heap.size + 1, 0, none⟩ = some (.int .i64 k2) ∧ w'.cell? ⟨w.heap.size + 1, 1, none⟩ = some (.int .i64 n2) ∧ w'.cell? ⟨w.heap.size + 1, 2, none⟩ = some (.string ⟨#[]⟩)) (go_simp)
      (first | (go_at_call 95; refine (isNegative_any _ _ _).mono ?_; rintro e w' ⟨rfl, rfl⟩))
    all_goals go_wp2_with (first | (go_at_call 66; ((with_reducible refine (isNaN_not _ _ h1 h14 _).mono ?_); rintro e w' ⟨rfl, rfl⟩)) | (go_at_call 66; ((with_reducible refine (isNaN_not _ _ h2 h24 _).mono ?_); rintro e w' ⟨rfl, rfl⟩)) | (go_at_call 91; ((with_reducible refine (isInf_any _ _ _).mono ?_); rintro e w' ⟨rfl, rfl⟩)) | (go_at_call 96; ((with_reducible refine (isZero_any _ _ _).mono ?_); rintro e w' ⟨rfl, rfl⟩)) | (go_at_call 97; ((with_reducible refine (infinity_any _ _).mono ?_); rintro e w' ⟨rfl, rfl⟩)) | (go_at_call 98; ((with_reducible refine (zero_pos _).mono ?_); rintro e w' ⟨rfl, rfl⟩)) | (go_at_call 98; ((with_reducible refine (zero_neg _).mono ?_); rintro e w' ⟨rfl, rfl⟩)) | (go_at_call 92; ((with_reducible refine (nan_any _).mono ?_); rintro e w' ⟨rfl, rfl⟩)))
    all_goals exact bodyPost_ret (v := .tuple #[vv 3 0, .bool true]) (by simp [results, Tryd.results79, go_sem]) rfl ⟨rfl, by repeat (first | (with_reducible refine blw_alloc _ ?_) | (with_reducible refine Below.drew ?_) | (with_reducible exact Below.refl _ _))⟩
  · go_enter Tryd.func79, Tryd.ntmps79
    go_wp2
    go_region_held3 (fun w' => w'.cell? ⟨w.heap.size, 0, none⟩ = some (.int .i64 k1) ∧ w'.cell? ⟨w.heap.size, 1, none⟩ = some (.int .i64 n1) ∧ w'.cell? ⟨w.heap.size, 2, none⟩ = some (.string ⟨#[]⟩) ∧ w'.cell? ⟨w.heap.size + 1, 0, none⟩ = some (.int .i64 k2) ∧ w'.cell? ⟨w.heap.size + 1, 1, none⟩ = some (.int .i64 n2) ∧ w'.cell? ⟨w.heap.size + 1, 2, none⟩ = some (.string ⟨#[]⟩)) (go_simp)
      (first | (go_at_call 95; refine (isNegative_any _ _ _).mono ?_; rintro e w' ⟨rfl, rfl⟩))
    all_goals go_wp2_with (first | (go_at_call 66; ((with_reducible refine (isNaN_not _ _ h1 h14 _).mono ?_); rintro e w' ⟨rfl, rfl⟩)) | (go_at_call 66; ((with_reducible refine (isNaN_not _ _ h2 h24 _).mono ?_); rintro e w' ⟨rfl, rfl⟩)) | (go_at_call 91; ((with_reducible refine (isInf_any _ _ _).mono ?_); rintro e w' ⟨rfl, rfl⟩)) | (go_at_call 96; ((with_reducible refine (isZero_any _ _ _).mono ?_); rintro e w' ⟨rfl, rfl⟩)) | (go_at_call 97; ((with_reducible refine (infinity_any _ _).mono ?_); rintro e w' ⟨rfl, rfl⟩)) | (go_at_call 98; ((with_reducible refine (zero_pos _).mono ?_); rintro e w' ⟨rfl, rfl⟩)) | (go_at_call 98; ((with_reducible refine (zero_neg _).mono ?_); rintro e w' ⟨rfl, rfl⟩)) | (go_at_call 92; ((with_reducible refine (nan_any _).mono ?_); rintro e w' ⟨rfl, rfl⟩)))
    all_goals exact bodyPost_ret (v := .tuple #[vv 6 0, .bool true]) (by simp [results, Tryd.results79, go_sem]) rfl ⟨rfl, by repeat (first | (with_reducible refine blw_alloc _ ?_) | (with_reducible refine Below.drew ?_) | (with_reducible exact Below.refl _ _))⟩
  · go_enter Tryd.func79, Tryd.ntmps79
    go_wp2
    go_region_held3 (fun w' => w'.cell? ⟨w.heap.size, 0, none⟩ = some (.int .i64 k1) ∧ w'.cell? ⟨w.heap.size, 1, none⟩ = some (.int .i64 n1) ∧ w'.cell? ⟨w.heap.size, 2, none⟩ = some (.string ⟨#[]⟩) ∧ w'.cell? ⟨w.heap.size + 1, 0, none⟩ = some (.int .i64 k2) ∧ w'.cell? ⟨w.heap.size + 1, 1, none⟩ = some (.int .i64 n2) ∧ w'.cell? ⟨w.heap.size + 1, 2, none⟩ = some (.string ⟨#[]⟩)) (go_simp)
      (first | (go_at_call 95; refine (isNegative_any _ _ _).mono ?_; rintro e w' ⟨rfl, rfl⟩))
    all_goals go_wp2_with (first | (go_at_call 66; ((with_reducible refine (isNaN_not _ _ h1 h14 _).mono ?_); rintro e w' ⟨rfl, rfl⟩)) | (go_at_call 66; ((with_reducible refine (isNaN_not _ _ h2 h24 _).mono ?_); rintro e w' ⟨rfl, rfl⟩)) | (go_at_call 91; ((with_reducible refine (isInf_any _ _ _).mono ?_); rintro e w' ⟨rfl, rfl⟩)) | (go_at_call 96; ((with_reducible refine (isZero_any _ _ _).mono ?_); rintro e w' ⟨rfl, rfl⟩)) | (go_at_call 97; ((with_reducible refine (infinity_any _ _).mono ?_); rintro e w' ⟨rfl, rfl⟩)) | (go_at_call 98; ((with_reducible refine (zero_pos _).mono ?_); rintro e w' ⟨rfl, rfl⟩)) | (go_at_call 98; ((with_reducible refine (zero_neg _).mono ?_); rintro e w' ⟨rfl, rfl⟩)) | (go_at_call 92; ((with_reducible refine (nan_any _).mono ?_); rintro e w' ⟨rfl, rfl⟩)))
    all_goals exact bodyPost_ret (v := .tuple #[vv 6 0, .bool true]) (by simp [results, Tryd.results79, go_sem]) rfl ⟨rfl, by repeat (first | (with_reducible refine blw_alloc _ ?_) | (with_reducible refine Below.drew ?_) | (with_reducible exact Below.refl _ _))⟩
  · go_enter Tryd.func79, Tryd.ntmps79
    go_wp2
    go_region_held3 (fun w' => w'.cell? ⟨w.heap.size, 0, none⟩ = some (.int .i64 k1) ∧ w'.cell? ⟨w.heap.size, 1, none⟩ = some (.int .i64 n1) ∧ w'.cell? ⟨w.heap.size, 2, none⟩ = some (.string ⟨#[]⟩) ∧ w'.cell? ⟨w.heap.size + 1, 0, none⟩ = some (.int .i64 k2) ∧ w'.cell? ⟨w.heap.size + 1, 1, none⟩ = some (.int .i64 n2) ∧ w'.cell? ⟨w.heap.size + 1, 2, none⟩ = some (.string ⟨#[]⟩)) (go_simp)
      (first | (go_at_call 95; refine (isNegative_any _ _ _).mono ?_; rintro e w' ⟨rfl, rfl⟩))
    all_goals go_wp2_with (first | (go_at_call 66; ((with_reducible refine (isNaN_not _ _ h1 h14 _).mono ?_); rintro e w' ⟨rfl, rfl⟩)) | (go_at_call 66; ((with_reducible refine (isNaN_not _ _ h2 h24 _).mono ?_); rintro e w' ⟨rfl, rfl⟩)) | (go_at_call 91; ((with_reducible refine (isInf_any _ _ _).mono ?_); rintro e w' ⟨rfl, rfl⟩)) | (go_at_call 96; ((with_reducible refine (isZero_any _ _ _).mono ?_); rintro e w' ⟨rfl, rfl⟩)) | (go_at_call 97; ((with_reducible refine (infinity_any _ _).mono ?_); rintro e w' ⟨rfl, rfl⟩)) | (go_at_call 98; ((with_reducible refine (zero_pos _).mono ?_); rintro e w' ⟨rfl, rfl⟩)) | (go_at_call 98; ((with_reducible refine (zero_neg _).mono ?_); rintro e w' ⟨rfl, rfl⟩)) | (go_at_call 92; ((with_reducible refine (nan_any _).mono ?_); rintro e w' ⟨rfl, rfl⟩)))
    all_goals exact bodyPost_ret (v := .tuple #[vv 3 0, .bool true]) (by simp [results, Tryd.results79, go_sem]) rfl ⟨rfl, by repeat (first | (with_reducible refine blw_alloc _ ?_) | (with_reducible refine Below.drew ?_) | (with_reducible exact Below.refl _ _))⟩

set_option maxHeartbeats 800000 in
theorem mul_p8 (k1 n1 k2 n2 : Int) (h1 : Num k1 n1) (h2 : Num k2 n2) (h14 : (k1 == 4) = false) (h24 : (k2 == 4) = false) (h15 : (k1 == 5) = false) (h1z : zerB k1 n1 = false) (h25 : (k2 == 5) = false) (h2z : zerB k2 n2 = true) (w : World) :
    Calls Tryd.prog 79 #[vv k1 n1, vv k2 n2] w fun e w' => e = .returned (.tuple #[vv (if negB k1 n1 != negB k2 n2 then 6 else 3) 0, .bool true]) ∧ Below w.heap.size w w' := by
  rcases hb1 : negB k1 n1 with _ | _ <;> rcases hb2 : negB k2 n2 with _ | _
  · go_enter Tryd.func79, Tryd.ntmps79
    go_wp2
    go_region_held3 (fun w' => w'.cell? ⟨w.heap.size, 0, none⟩ = some (.int .i64 k1) ∧ w'.cell? ⟨w.heap.size, 1, none⟩ = some (.int .i64 n1) ∧ w'.cell? ⟨w.heap.size, 2, none⟩ = some (.string ⟨#[]⟩) ∧ w'.cell? ⟨w.heap.size + 1, 0, none⟩ = some (.int .i64 k2) ∧ w'.cell? ⟨w.heap.size + 1, 1, none⟩ = some (.int .i64 n2) ∧ w'.cell? ⟨w.heap.size + 1, 2, none⟩ = some (.string ⟨#[]⟩)) (go_simp)
      (first | (go_at_call 95; refine (isNegative_any _ _ _).mono ?_; rintro e w' ⟨rfl, rfl⟩))
    all_goals go_wp2_with (first | (go_at_call 66; ((with_reducible refine (isNaN_not _ _ h1 h14 _).mono ?_); rintro e w' ⟨rfl, rfl⟩)) | (go_at_call 66; ((with_reducible refine (isNaN_not _ _ h2 h24 _).mono ?_); rintro e w' ⟨rfl, rfl⟩)) | (go_at_call 91; ((with_reducible refine (isInf_any _ _ _).mono ?_); rintro e w' ⟨rfl, rfl⟩)) | (go_at_call 96; ((with_reducible refine (isZero_any _ _ _).mono ?_); rintro e w' ⟨rfl, rfl⟩)) | (go_at_call 97; ((with_reducible refine (infinity_any _ _).mono ?_); rintro e w' ⟨rfl, rfl⟩)) | (go_at_call 98; ((with_reducible refine (zero_pos _).mono ?_); rintro e w' ⟨rfl, rfl⟩)) | (go_at_call 98; ((with_reducible refine (zero_neg _).mono ?_); rintro e w' ⟨rfl, rfl⟩)) | (go_at_call 92; ((with_reducible refine (nan_any _).mono ?_); rintro e w' ⟨rfl, rfl⟩)))
    all_goals exact bodyPost_ret (v := .tuple #[vv 3 0, .bool true]) (by simp [results, Tryd.results79, go_sem]) rfl ⟨rfl, by repeat (first | (with_reducible refine blw_alloc _ ?_) | (with_reducible refine Below.drew ?_) | (with_reducible exact Below.refl _ _))⟩
  · go_enter Tryd.func79, Tryd.ntmps79
    go_wp2
    go_region_held3 (fun w' => w'.cell? ⟨w.heap.size, 0, none⟩ = some (.int .i64 k1) ∧ w'.cell? ⟨w.heap.size, 1, none⟩ = some (.int .i64 n1) ∧ w'.cell? ⟨w.heap.size, 2, none⟩ = some (.string ⟨#[]⟩) ∧ w'.cell? ⟨w.heap.size + 1, 0, none⟩ = some (.int .i64 k2) ∧ w'.cell? ⟨w.heap.size + 1, 1, none⟩ = some (.int .i64 n2) ∧ w'.cell? ⟨w.heap.size + 1, 2, none⟩ = some (.string ⟨#[]⟩)) (go_simp)
      (first | (go_at_call 95; refine (isNegative_any _ _ _).mono ?_; rintro e w' ⟨rfl, rfl⟩))
    all_goals go_wp2_with (first | (go_at_call 66; ((with_reducible refine (isNaN_not _ _ h1 h14 _).mono ?_); rintro e w' ⟨rfl, rfl⟩)) | (go_at_call 66; ((with_reducible refine (isNaN_not _ _ h2 h24 _).mono ?_); rintro e w' ⟨rfl, rfl⟩)) | (go_at_call 91; ((with_reducible refine (isInf_any _ _ _).mono ?_); rintro e w' ⟨rfl, rfl⟩)) | (go_at_call 96; ((with_reducible refine (isZero_any _ _ _).mono ?_); rintro e w' ⟨rfl, rfl⟩)) | (go_at_call 97; ((with_reducible refine (infinity_any _ _).mono ?_); rintro e w' ⟨rfl, rfl⟩)) | (go_at_call 98; ((with_reducible refine (zero_pos _).mono ?_); rintro e w' ⟨rfl, rfl⟩)) | (go_at_call 98; ((with_reducible refine (zero_neg _).mono ?_); rintro e w' ⟨rfl, rfl⟩)) | (go_at_call 92; ((with_reducible refine (nan_any _).mono ?_); rintro e w' ⟨rfl, rfl⟩)))
    all_goals exact bodyPost_ret (v := .tuple #[vv 6 0, .bool true]) (by simp [results, Tryd.results79, go_sem]) rfl ⟨rfl, by repeat (first | (with_reducible refine blw_alloc _ ?_) | (with_reducible refine Below.drew ?_) | (with_reducible exact Below.refl _ _))⟩
  · go_enter Tryd.func79, Tryd.ntmps79
    go_wp2
    go_region_held3 (fun w' => w'.cell? ⟨w.heap.size, 0, none⟩ = some (.int .i64 k1) ∧ w'.cell? ⟨w.heap.size, 1, none⟩ = some (.int .i64 n1) ∧ w'.cell? ⟨w.heap.size, 2, none⟩ = some (.string ⟨#[]⟩) ∧ w'.cell? ⟨w.heap.size + 1, 0, none⟩ = some (.int .i64 k2) ∧ w'.cell? ⟨w.heap.size + 1, 1, none⟩ = some (.int .i64 n2) ∧ w'.cell? ⟨w.heap.size + 1, 2, none⟩ = some (.string ⟨#[]⟩)) (go_simp)
      (first | (go_at_call 95; refine (isNegative_any _ _ _).mono ?_; rintro e w' ⟨rfl, rfl⟩))
    all_goals go_wp2_with (first | (go_at_call 66; ((with_reducible refine (isNaN_not _ _ h1 h14 _).mono ?_); rintro e w' ⟨rfl, rfl⟩)) | (go_at_call 66; ((with_reducible refine (isNaN_not _ _ h2 h24 _).mono ?_); rintro e w' ⟨rfl, rfl⟩)) | (go_at_call 91; ((with_reducible refine (isInf_any _ _ _).mono ?_); rintro e w' ⟨rfl, rfl⟩)) | (go_at_call 96; ((with_reducible refine (isZero_any _ _ _).mono ?_); rintro e w' ⟨rfl, rfl⟩)) | (go_at_call 97; ((with_reducible refine (infinity_any _ _).mono ?_); rintro e w' ⟨rfl, rfl⟩)) | (go_at_call 98; ((with_reducible refine (zero_pos _).mono ?_); rintro e w' ⟨rfl, rfl⟩)) | (go_at_call 98; ((with_reducible refine (zero_neg _).mono ?_); rintro e w' ⟨rfl, rfl⟩)) | (go_at_call 92; ((with_reducible refine (nan_any _).mono ?_); rintro e w' ⟨rfl, rfl⟩)))
    all_goals exact bodyPost_ret (v := .tuple #[vv 6 0, .bool true]) (by simp [results, Tryd.results79, go_sem]) rfl ⟨rfl, by repeat (first | (with_reducible refine blw_alloc _ ?_) | (with_reducible refine Below.drew ?_) | (with_reducible exact Below.refl _ _))⟩
  · go_enter Tryd.func79, Tryd.ntmps79
    go_wp2
    go_region_held3 (fun w' => w'.cell? ⟨w.heap.size, 0, none⟩ = some (.int .i64 k1) ∧ w'.cell? ⟨w.heap.size, 1, none⟩ = some (.int .i64 n1) ∧ w'.cell? ⟨w.heap.size, 2, none⟩ = some (.string ⟨#[]⟩) ∧ w'.cell? ⟨w.heap.size + 1, 0, none⟩ = some (.int .i64 k2) ∧ w'.cell? ⟨w.heap.size + 1, 1, none⟩ = some (.int .i64 n2) ∧ w'.cell? ⟨w.heap.size + 1, 2, none⟩ = some (.string ⟨#[]⟩)) (go_simp)
      (first | (go_at_call 95; refine (isNegative_any _ _ _).mono ?_; rintro e w' ⟨rfl, rfl⟩))
    all_goals go_wp2_with (first | (go_at_call 66; ((with_reducible refine (isNaN_not _ _ h1 h14 _).mono ?_); rintro e w' ⟨rfl, rfl⟩)) | (go_at_call 66; ((with_reducible refine (isNaN_not _ _ h2 h24 _).mono ?_); rintro e w' ⟨rfl, rfl⟩)) | (go_at_call 91; ((with_reducible refine (isInf_any _ _ _).mono ?_); rintro e w' ⟨rfl, rfl⟩)) | (go_at_call 96; ((with_reducible refine (isZero_any _ _ _).mono ?_); rintro e w' ⟨rfl, rfl⟩)) | (go_at_call 97; ((with_reducible refine (infinity_any _ _).mono ?_); rintro e w' ⟨rfl, rfl⟩)) | (go_at_call 98; ((with_reducible refine (zero_pos _).mono ?_); rintro e w' ⟨rfl, rfl⟩)) | (go_at_call 98; ((with_reducible refine (zero_neg _).mono ?_); rintro e w' ⟨rfl, rfl⟩)) | (go_at_call 92; ((with_reducible refine (nan_any _).mono ?_); rintro e w' ⟨rfl, rfl⟩)))
    all_goals exact bodyPost_ret (v := .tuple #[vv 3 0, .bool true]) (by simp [results, Tryd.results79, go_sem]) rfl ⟨rfl, by repeat (first | (with_reducible refine blw_alloc _ ?_) | (with_reducible refine Below.drew ?_) | (with_reducible exact Below.refl _ _))⟩

theorem mg_pos (n : Int) (h : n ≠ 0) : 0 < mg n := by unfold mg; omega
theorem mg_le (n : Int) (h1 : -9007199254740991 ≤ n) (h2 : n ≤ 9007199254740991) : mg n ≤ 9007199254740991 := by unfold mg; omega

set_option maxHeartbeats 1600000 in
theorem mul_p9 (n1 n2 : Int) (h1 : Num 3 n1) (h2 : Num 3 n2) (h11 : -9007199254740991 ≤ n1) (h12 : n1 ≤ 9007199254740991) (h21 : -9007199254740991 ≤ n2) (h22 : n2 ≤ 9007199254740991) (h1z : zerB 3 n1 = false) (h2z : zerB 3 n2 = false)
    (hp2 : 0 < mg n2) (hz2 : mg n2 ≠ 0) (hg2 : mg n2 ≤ 9007199254740991) (hc : 9007199254740991 / mg n2 < mg n1) (w : World) :
    Calls Tryd.prog 79 #[vv 3 n1, vv 3 n2] w fun e w' => e = .returned (.tuple #[vv 0 0, .bool false]) ∧ Below w.heap.size w w' := by
  have hw := IntWalk.i64_quo 9007199254740991 (mg n2) ⟨by omega, by omega, by omega⟩
  go_enter Tryd.func79, Tryd.ntmps79
  go_wp2
  go_region_held3 (fun w' => w'.cell? ⟨w.heap.size, 0, none⟩ = some (.int .i64 3) ∧ w'.cell? ⟨w.heap.size, 1, none⟩ = some (.int .i64 n1) ∧ w'.cell? ⟨w.heap.size, 2, none⟩ = some (.string ⟨#[]⟩) ∧ w'.cell? ⟨w.heap.size + 1, 0, none⟩ = some (.int .i64 3) ∧ w'.cell? ⟨w.heap.size + 1, 1, none⟩ = some (.int .i64 n2) ∧ w'.cell? ⟨w.heap.size + 1, 2, none⟩ = some (.string ⟨#[]⟩)) (go_simp)
    (first | (go_at_call 95; refine (isNegative_any _ _ _).mono ?_; rintro e w' ⟨rfl, rfl⟩))
  all_goals go_wp2_with (first | (go_at_call 66; ((with_reducible refine (isNaN_not _ _ h1 rfl _).mono ?_); rintro e w' ⟨rfl, rfl⟩)) | (go_at_call 66; ((with_reducible refine (isNaN_not _ _ h2 rfl _).mono ?_); rintro e w' ⟨rfl, rfl⟩)) | (go_at_call 91; ((with_reducible refine (isInf_any _ _ _).mono ?_); rintro e w' ⟨rfl, rfl⟩)) | (go_at_call 96; ((with_reducible refine (isZero_any _ _ _).mono ?_); rintro e w' ⟨rfl, rfl⟩)) | (go_at_call 97; ((with_reducible refine (infinity_any _ _).mono ?_); rintro e w' ⟨rfl, rfl⟩)) | (go_at_call 98; ((with_reducible refine (zero_pos _).mono ?_); rintro e w' ⟨rfl, rfl⟩)) | (go_at_call 98; ((with_reducible refine (zero_neg _).mono ?_); rintro e w' ⟨rfl, rfl⟩)) | (go_at_call 92; ((with_reducible refine (nan_any _).mono ?_); rintro e w' ⟨rfl, rfl⟩)) | (go_at_call 100; ((with_reducible refine (integer_any _ _).mono ?_); rintro e w' ⟨rfl, rfl⟩)))
  all_goals go_region_held3 (fun w' => w'.cell? ⟨w.heap.size, 0, none⟩ = some (.int .i64 3) ∧ w'.cell? ⟨w.heap.size, 1, none⟩ = some (.int .i64 n1) ∧ w'.cell? ⟨w.heap.size, 2, none⟩ = some (.string ⟨#[]⟩) ∧ w'.cell? ⟨w.heap.size + 1, 0, none⟩ = some (.int .i64 3) ∧ w'.cell? ⟨w.heap.size + 1, 1, none⟩ = some (.int .i64 n2) ∧ w'.cell? ⟨w.heap.size + 1, 2, none⟩ = some (.string ⟨#[]⟩)) (go_simp)
    (first | (go_at_call 99; ((with_reducible refine (magnitude_any _ _ (by assumption) (by assumption) _).mono ?_); rintro e w' ⟨rfl, rfl⟩)))
  all_goals go_wp2_with (first | (go_at_call 66; ((with_reducible refine (isNaN_not _ _ h1 rfl _).mono ?_); rintro e w' ⟨rfl, rfl⟩)) | (go_at_call 66; ((with_reducible refine (isNaN_not _ _ h2 rfl _).mono ?_); rintro e w' ⟨rfl, rfl⟩)) | (go_at_call 100; ((with_reducible refine (integer_any _ _).mono ?_); rintro e w' ⟨rfl, rfl⟩)))
  all_goals exact bodyPost_ret (v := .tuple #[vv 0 0, .bool false]) (by simp [results, Tryd.results79, go_sem]) rfl ⟨rfl, by repeat (first | (with_reducible refine blw_alloc _ ?_) | (with_reducible refine Below.drew ?_) | (with_reducible exact Below.refl _ _))⟩

set_option maxHeartbeats 1600000 in
theorem mul_p10 (n1 n2 : Int) (h1 : Num 3 n1) (h2 : Num 3 n2) (h11 : -9007199254740991 ≤ n1) (h12 : n1 ≤ 9007199254740991) (h21 : -9007199254740991 ≤ n2) (h22 : n2 ≤ 9007199254740991) (h1z : zerB 3 n1 = false) (h2z : zerB 3 n2 = false)
    (hp2 : 0 < mg n2) (hz2 : mg n2 ≠ 0) (hg2 : mg n2 ≤ 9007199254740991) (hc : mg n1 ≤ 9007199254740991 / mg n2) (hb1 : -9007199254740991 ≤ n1 * n2) (hb2 : n1 * n2 ≤ 9007199254740991) (w : World) :
    Calls Tryd.prog 79 #[vv 3 n1, vv 3 n2] w fun e w' => e = .returned (.tuple #[vv 3 (n1 * n2), .bool true]) ∧ Below w.heap.size w w' := by
  have hw := IntWalk.i64_quo 9007199254740991 (mg n2) ⟨by omega, by omega, by omega⟩
  go_enter Tryd.func79, Tryd.ntmps79
  go_wp2
  go_region_held3 (fun w' => w'.cell? ⟨w.heap.size, 0, none⟩ = some (.int .i64 3) ∧ w'.cell? ⟨w.heap.size, 1, none⟩ = some (.int .i64 n1) ∧ w'.cell? ⟨w.heap.size, 2, none⟩ = some (.string ⟨#[]⟩) ∧ w'.cell? ⟨w.heap.size + 1, 0, none⟩ = some (.int .i64 3) ∧ w'.cell? ⟨w.heap.size + 1, 1, none⟩ = some (.int .i64 n2) ∧ w'.cell? ⟨w.heap.size + 1, 2, none⟩ = some (.string ⟨#[]⟩)) (go_simp)
    (first | (go_at_call 95; refine (isNegative_any _ _ _).mono ?_; rintro e w' ⟨rfl, rfl⟩))
  all_goals go_wp2_with (first | (go_at_call 66; ((with_reducible refine (isNaN_not _ _ h1 rfl _).mono ?_); rintro e w' ⟨rfl, rfl⟩)) | (go_at_call 66; ((with_reducible refine (isNaN_not _ _ h2 rfl _).mono ?_); rintro e w' ⟨rfl, rfl⟩)) | (go_at_call 91; ((with_reducible refine (isInf_any _ _ _).mono ?_); rintro e w' ⟨rfl, rfl⟩)) | (go_at_call 96; ((with_reducible refine (isZero_any _ _ _).mono ?_); rintro e w' ⟨rfl, rfl⟩)) | (go_at_call 97; ((with_reducible refine (infinity_any _ _).mono ?_); rintro e w' ⟨rfl, rfl⟩)) | (go_at_call 98; ((with_reducible refine (zero_pos _).mono ?_); rintro e w' ⟨rfl, rfl⟩)) | (go_at_call 98; ((with_reducible refine (zero_neg _).mono ?_); rintro e w' ⟨rfl, rfl⟩)) | (go_at_call 92; ((with_reducible refine (nan_any _).mono ?_); rintro e w' ⟨rfl, rfl⟩)) | (go_at_call 100; ((with_reducible refine (integer_any _ _).mono ?_); rintro e w' ⟨rfl, rfl⟩)))
  all_goals go_region_held3 (fun w' => w'.cell? ⟨w.heap.size, 0, none⟩ = some (.int .i64 3) ∧ w'.cell? ⟨w.heap.size, 1, none⟩ = some (.int .i64 n1) ∧ w'.cell? ⟨w.heap.size, 2, none⟩ = some (.string ⟨#[]⟩) ∧ w'.cell? ⟨w.heap.size + 1, 0, none⟩ = some (.int .i64 3) ∧ w'.cell? ⟨w.heap.size + 1, 1, none⟩ = some (.int .i64 n2) ∧ w'.cell? ⟨w.heap.size + 1, 2, none⟩ = some (.string ⟨#[]⟩)) (go_simp)
    (first | (go_at_call 99; ((with_reducible refine (magnitude_any _ _ (by assumption) (by assumption) _).mono ?_); rintro e w' ⟨rfl, rfl⟩)))
  all_goals go_wp2_with (first | (go_at_call 66; ((with_reducible refine (isNaN_not _ _ h1 rfl _).mono ?_); rintro e w' ⟨rfl, rfl⟩)) | (go_at_call 66; ((with_reducible refine (isNaN_not _ _ h2 rfl _).mono ?_); rintro e w' ⟨rfl, rfl⟩)) | (go_at_call 100; ((with_reducible refine (integer_any _ _).mono ?_); rintro e w' ⟨rfl, rfl⟩)))
  all_goals exact bodyPost_ret (v := .tuple #[vv 3 (n1 * n2), .bool true]) (by simp [results, Tryd.results79, go_sem]) rfl ⟨rfl, by repeat (first | (with_reducible refine blw_alloc _ ?_) | (with_reducible refine Below.drew ?_) | (with_reducible exact Below.refl _ _))⟩

/-- What num.Mul answers: kind, number, and whether it is there. -/
def mulR (k1 n1 k2 n2 : Int) : Int × Int × Bool :=
  if k1 = 4 ∨ k2 = 4 ∨ k1 = 5 ∧ zerB k2 n2 = true ∨ zerB k1 n1 = true ∧ k2 = 5 then (4, 0, true)
  else if k1 = 5 ∨ k2 = 5 then (5, (if negB k1 n1 != negB k2 n2 then -1 else 1), true)
  else if zerB k1 n1 = true ∨ zerB k2 n2 = true then ((if negB k1 n1 != negB k2 n2 then 6 else 3), 0, true)
  else if mg n1 ≤ 9007199254740991 / mg n2 then (3, n1 * n2, true) else (0, 0, false)
abbrev vr (r : Int × Int × Bool) : Value := .tuple #[vv r.1 r.2.1, .bool r.2.2]

theorem num_nan (k n : Int) (h : Num k n) (hk : k = 4) : n = 0 := by unfold Num at h; omega
theorem num_int (k n : Int) (h : Num k n) (h4 : k ≠ 4) (h5 : k ≠ 5) (hz : zerB k n = false) : k = 3 ∧ n ≠ 0 ∧ -9007199254740991 ≤ n ∧ n ≤ 9007199254740991 := by
  unfold Num at h
  rcases h with ⟨rfl, rfl⟩ | ⟨rfl, rfl⟩ | ⟨rfl, rfl⟩ | ⟨rfl, rfl⟩ | ⟨rfl, h1, h2⟩
  · exact absurd rfl h4
  · exact absurd rfl h5
  · exact absurd rfl h5
  · simp [zerB] at hz
  · exact ⟨rfl, by simpa [zerB] using hz, h1, h2⟩
theorem prod_bound (a b : Int) (hb : b ≠ 0) (hc : mg a ≤ 9007199254740991 / mg b) : -9007199254740991 ≤ a * b ∧ a * b ≤ 9007199254740991 := by
  have hp := mg_pos b hb
  have h : mg a * mg b ≤ 9007199254740991 := by
    have h1 : mg a * mg b ≤ 9007199254740991 / mg b * mg b := Int.mul_le_mul_of_nonneg_right hc (by omega)
    have h2 : 9007199254740991 / mg b * mg b ≤ 9007199254740991 := Int.ediv_mul_le _ (by omega)
    omega
  have e : mg a * mg b = ((a * b).natAbs : Int) := by unfold mg; rw [Int.natAbs_mul]; simp
  rw [e] at h
  omega

theorem mul_any (k1 n1 k2 n2 : Int) (h1 : Num k1 n1) (h2 : Num k2 n2) (w : World) :
    Calls Tryd.prog 79 #[vv k1 n1, vv k2 n2] w fun e w' => e = .returned (vr (mulR k1 n1 k2 n2)) ∧ Below w.heap.size w w' := by
  unfold mulR
  by_cases a4 : k1 = 4
  · subst a4; rw [num_nan 4 n1 h1 rfl, if_pos (Or.inl rfl)]; exact mul_p1 k2 n2 w
  have a4b : (k1 == 4) = false := by simpa using a4
  by_cases b4 : k2 = 4
  · subst b4; rw [num_nan 4 n2 h2 rfl, if_pos (Or.inr (Or.inl rfl))]; exact mul_p2 k1 n1 h1 a4b w
  have b4b : (k2 == 4) = false := by simpa using b4
  by_cases a5 : k1 = 5
  · have a5b : (k1 == 5) = true := by simpa using a5
    rcases hz2 : zerB k2 n2 with _ | _
    · have hz1 : zerB k1 n1 = false := by subst a5; rfl
      rw [if_neg (by rintro (h | h | ⟨_, h⟩ | ⟨h, _⟩) <;> first | exact a4 h | exact b4 h | (cases h; done) | (rw [hz1] at h; cases h)), if_pos (Or.inl a5)]
      exact mul_p5 k1 n1 k2 n2 h1 h2 a4b b4b a5b hz1 hz2 w
    · rw [if_pos (Or.inr (Or.inr (Or.inl ⟨a5, rfl⟩)))]; exact mul_p3 k1 n1 k2 n2 h1 h2 a4b b4b a5b hz2 w
  have a5b : (k1 == 5) = false := by simpa using a5
  rcases hz1 : zerB k1 n1 with _ | _
  · by_cases b5 : k2 = 5
    · rw [if_neg (by simp [a4, b4, a5]), if_pos (Or.inr b5)]
      exact mul_p6 k1 n1 k2 n2 h1 h2 a4b b4b a5b hz1 (by simpa using b5) w
    · have b5b : (k2 == 5) = false := by simpa using b5
      rw [if_neg (by simp [a4, b4, a5]), if_neg (by simp [a5, b5])]
      rcases hz2 : zerB k2 n2 with _ | _
      · obtain ⟨rfl, x0, x1, x2⟩ := num_int k1 n1 h1 a4 a5 hz1
        obtain ⟨rfl, y0, y1, y2⟩ := num_int k2 n2 h2 b4 b5 hz2
        rw [if_neg (by simp)]
        by_cases hc : mg n1 ≤ 9007199254740991 / mg n2
        · rw [if_pos hc]
          have hb := prod_bound n1 n2 y0 hc
          exact mul_p10 n1 n2 h1 h2 x1 x2 y1 y2 hz1 hz2 (mg_pos n2 y0) (by have := mg_pos n2 y0; omega) (mg_le n2 y1 y2) hc hb.1 hb.2 w
        · rw [if_neg hc]
          exact mul_p9 n1 n2 h1 h2 x1 x2 y1 y2 hz1 hz2 (mg_pos n2 y0) (by have := mg_pos n2 y0; omega) (mg_le n2 y1 y2) (by omega) w
      · rw [if_pos (Or.inr rfl)]
        exact mul_p8 k1 n1 k2 n2 h1 h2 a4b b4b a5b hz1 b5b hz2 w
  · by_cases b5 : k2 = 5
    · rw [if_pos (Or.inr (Or.inr (Or.inr ⟨rfl, b5⟩)))]; exact mul_p4 k1 n1 k2 n2 h1 h2 a4b b4b a5b hz1 (by simpa using b5) w
    · have b5b : (k2 == 5) = false := by simpa using b5
      rw [if_neg (by simp [a4, b4, a5, b5]), if_neg (by simp [a5, b5]), if_pos (Or.inl rfl)]
      exact mul_p7 k1 n1 k2 n2 h1 h2 a4b b4b a5b hz1 b5b w
end Go.Proofs.YtbkgophgclpijaaDoor.M
