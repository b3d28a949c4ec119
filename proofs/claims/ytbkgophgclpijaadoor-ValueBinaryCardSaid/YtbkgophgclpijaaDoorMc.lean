/- The contract of num.Div: it returns what the chapter specifies, for all numbers. -/
import Derived.Test.YtbkgophgclpijaaDoorMb
import Derived.Deep.RegionHeld3
import Derived.Outline
namespace Go.Proofs.YtbkgophgclpijaaDoor.M
open Go.RowKit



set_option maxHeartbeats 800000 in
theorem div_p1 (k2 n2 : Int) (w : World) :
    Calls Tryd.prog 80 #[vv 4 0, vv k2 n2] w fun e w' => e = .returned (.tuple #[vv 4 0, .bool true]) ∧ Below w.heap.size w w' := by
  go_enter Tryd.func80, Tryd.ntmps80
  go_wp2
  go_region_held3 (fun w' => w'.cell? ⟨w.heap.size, 0, none⟩ = some (.int .i64 4) ∧ w'.cell? ⟨w.heap.size, 1, none⟩ = some (.int .i64 0) ∧ w'.cell? ⟨w.heap.size, 2, none⟩ = some (.string ⟨#[]⟩) ∧ w'.cell? ⟨w.heap.size + 1, 0, none⟩ = some (.int .i64 k2) ∧ w'.cell? ⟨w.heap.size + 1, 1, none⟩ = some (.int .i64 n2) ∧ w'.cell? ⟨w.heap.size + 1, 2, none⟩ = some (.string ⟨#[]⟩)) (go_simp)
    (first | (go_at_call 95; refine (isNegative_any _ _ _).mono ?_; rintro e w' ⟨rfl, rfl⟩))
  all_goals go_wp2_with (first | (go_at_call 66; ((with_reducible refine (isNaN_nan _).mono ?_); rintro e w' ⟨rfl, rfl⟩)) | (go_at_call 92; ((with_reducible refine (nan_any _).mono ?_); rintro e w' ⟨rfl, rfl⟩)))
  all_goals exact bodyPost_ret (v := .tuple #[vv 4 0, .bool true]) (by simp [results, Tryd.results80, go_sem]) rfl ⟨rfl, by repeat (first | (with_reducible refine blw_alloc _ ?_) | (with_reducible refine Below.drew ?_) | (with_reducible exact Below.refl _ _))⟩

set_option maxHeartbeats 800000 in
theorem div_p2 (k1 n1 : Int) (h1 : Num k1 n1) (h14 : (k1 == 4) = false) (w : World) :
    Calls Tryd.prog 80 #[vv k1 n1, vv 4 0] w fun e w' => e = .returned (.tuple #[vv 4 0, .bool true]) ∧ Below w.heap.size w w' := by
  go_enter Tryd.func80, Tryd.ntmps80
  go_wp2
  go_region_held3 (fun w' => w'.cell? ⟨w.heap.size, 0, none⟩ = some (.int .i64 k1) ∧ w'.cell? ⟨w.heap.size, 1, none⟩ = some (.int .i64 n1) ∧ w'.cell? ⟨w.heap.size, 2, none⟩ = some (.string ⟨#[]⟩) ∧ w'.cell? ⟨w.heap.size + 1, 0, none⟩ = some (.int .i64 4) ∧ w'.cell? ⟨w.heap.size + 1, 1, none⟩ = some (.int .i64 0) ∧ w'.cell? ⟨w.heap.size + 1, 2, none⟩ = some (.string ⟨#[]⟩)) (go_simp)
    (first | (go_at_call 95; refine (isNegative_any _ _ _).mono ?_; rintro e w' ⟨rfl, rfl⟩))
  all_goals go_wp2_with (first | (go_at_call 66; ((with_reducible refine (isNaN_not _ _ h1 h14 _).mono ?_); rintro e w' ⟨rfl, rfl⟩)) | (go_at_call 66; ((with_reducible refine (isNaN_nan _).mono ?_); rintro e w' ⟨rfl, rfl⟩)) | (go_at_call 92; ((with_reducible refine (nan_any _).mono ?_); rintro e w' ⟨rfl, rfl⟩)))
  all_goals exact bodyPost_ret (v := .tuple #[vv 4 0, .bool true]) (by simp [results, Tryd.results80, go_sem]) rfl ⟨rfl, by repeat (first | (with_reducible refine blw_alloc _ ?_) | (with_reducible refine Below.drew ?_) | (with_reducible exact Below.refl _ _))⟩

set_option maxHeartbeats 800000 in
theorem div_p3 (k1 n1 k2 n2 : Int) (h1 : Num k1 n1) (h2 : Num k2 n2) (h14 : (k1 == 4) = false) (h24 : (k2 == 4) = false) (h15 : (k1 == 5) = true) (h25 : (k2 == 5) = true) (w : World) :
    Calls Tryd.prog 80 #[vv k1 n1, vv k2 n2] w fun e w' => e = .returned (.tuple #[vv 4 0, .bool true]) ∧ Below w.heap.size w w' := by
  go_enter Tryd.func80, Tryd.ntmps80
  go_wp2
  go_region_held3 (fun w' => w'.cell? ⟨w.heap.size, 0, none⟩ = some (.int .i64 k1) ∧ w'.cell? ⟨w.heap.size, 1, none⟩ = some (.int .i64 n1) ∧ w'.cell? ⟨w.heap.size, 2, none⟩ = some (.string ⟨#[]⟩) ∧ w'.cell? ⟨w.heap.size + 1, 0, none⟩ = some (.int .i64 k2) ∧ w'.cell? ⟨w.heap.size + 1, 1, none⟩ = some (.int .i64 n2) ∧ w'.cell? ⟨w.heap.size + 1, 2, none⟩ = some (.string ⟨#[]⟩)) (go_simp)
    (first | (go_at_call 95; refine (isNegative_any _ _ _).mono ?_; rintro e w' ⟨rfl, rfl⟩))
  all_goals go_wp2_with (first | (go_at_call 66; ((with_reducible refine (isNaN_not _ _ h1 h14 _).mono ?_); rintro e w' ⟨rfl, rfl⟩)) | (go_at_call 66; ((with_reducible refine (isNaN_not _ _ h2 h24 _).mono ?_); rintro e w' ⟨rfl, rfl⟩)) | (go_at_call 91; ((with_reducible refine (isInf_any _ _ _).mono ?_); rintro e w' ⟨rfl, rfl⟩)) | (go_at_call 96; ((with_reducible refine (isZero_any _ _ _).mono ?_); rintro e w' ⟨rfl, rfl⟩)) | (go_at_call 97; ((with_reducible refine (infinity_any _ _).mono ?_); rintro e w' ⟨rfl, rfl⟩)) | (go_at_call 98; ((with_reducible refine (zero_pos _).mono ?_); rintro e w' ⟨rfl, rfl⟩)) | (go_at_call 98; ((with_reducible refine (zero_neg _).mono ?_); rintro e w' ⟨rfl, rfl⟩)) | (go_at_call 92; ((with_reducible refine (nan_any _).mono ?_); rintro e w' ⟨rfl, rfl⟩)))
  all_goals exact bodyPost_ret (v := .tuple #[vv 4 0, .bool true]) (by simp [results, Tryd.results80, go_sem]) rfl ⟨rfl, by repeat (first | (with_reducible refine blw_alloc _ ?_) | (with_reducible refine Below.drew ?_) | (with_reducible exact Below.refl _ _))⟩

set_option maxHeartbeats 800000 in
theorem div_p4 (k1 n1 k2 n2 : Int) (h1 : Num k1 n1) (h2 : Num k2 n2) (h14 : (k1 == 4) = false) (h24 : (k2 == 4) = false) (h15 : (k1 == 5) = false) (h1z : zerB k1 n1 = true) (h2z : zerB k2 n2 = true) (w : World) :
    Calls Tryd.prog 80 #[vv k1 n1, vv k2 n2] w fun e w' => e = .returned (.tuple #[vv 4 0, .bool true]) ∧ Below w.heap.size w w' := by
  go_enter Tryd.func80, Tryd.ntmps80
  go_wp2
  go_region_held3 (fun w' => w'.cell? ⟨w.heap.size, 0, none⟩ = some (.int .i64 k1) ∧ w'.cell? ⟨w.heap.size, 1, none⟩ = some (.int .i64 n1) ∧ w'.cell? ⟨w.heap.size, 2, none⟩ = some (.string ⟨#[]⟩) ∧ w'.cell? ⟨w.heap.size + 1, 0, none⟩ = some (.int .i64 k2) ∧ w'.cell? ⟨w.heap.size + 1, 1, none⟩ = some (.int .i64 n2) ∧ w'.cell? ⟨w.heap.size + 1, 2, none⟩ = some (.string ⟨#[]⟩)) (go_simp)
    (first | (go_at_call 95; refine (isNegative_any _ _ _).mono ?_; rintro e w' ⟨rfl, rfl⟩))
  all_goals go_wp2_with (first | (go_at_call 66; ((with_reducible refine (isNaN_not _ _ h1 h14 _).mono ?_); rintro e w' ⟨rfl, rfl⟩)) | (go_at_call 66; ((with_reducible refine (isNaN_not _ _ h2 h24 _).mono ?_); rintro e w' ⟨rfl, rfl⟩)) | (go_at_call 91; ((with_reducible refine (isInf_any _ _ _).mono ?_); rintro e w' ⟨rfl, rfl⟩)) | (go_at_call 96; ((with_reducible refine (isZero_any _ _ _).mono ?_); rintro e w' ⟨rfl, rfl⟩)) | (go_at_call 97; ((with_reducible refine (infinity_any _ _).mono ?_); rintro e w' ⟨rfl, rfl⟩)) | (go_at_call 98; ((with_reducible refine (zero_pos _).mono ?_); rintro e w' ⟨rfl, rfl⟩)) | (go_at_call 98; ((with_reducible refine (zero_neg _).mono ?_); rintro e w' ⟨rfl, rfl⟩)) | (go_at_call 92; ((with_reducible refine (nan_any _).mono ?_); rintro e w' ⟨rfl, rfl⟩)))
  all_goals exact bodyPost_ret (v := .tuple #[vv 4 0, .bool true]) (by simp [results, Tryd.results80, go_sem]) rfl ⟨rfl, by repeat (first | (with_reducible refine blw_alloc _ ?_) | (with_reducible refine Below.drew ?_) | (with_reducible exact Below.refl _ _))⟩

set_option maxHeartbeats 800000 in
theorem div_p5 (k1 n1 k2 n2 : Int) (h1 : Num k1 n1) (h2 : Num k2 n2) (h14 : (k1 == 4) = false) (h24 : (k2 == 4) = false) (h15 : (k1 == 5) = true) (h25 : (k2 == 5) = false) (h1z : zerB k1 n1 = false) (w : World) :
    Calls Tryd.prog 80 #[vv k1 n1, vv k2 n2] w fun e w' => e = .returned (.tuple #[vv 5 (if negB k1 n1 != negB k2 n2 then -1 else 1), .bool true]) ∧ Below w.heap.size w w' := by
  rcases hb1 : negB k1 n1 with _ | _ <;> rcases hb2 : negB k2 n2 with _ | _
  · go_enter Tryd.func80, Tryd.ntmps80
    go_wp2
    go_region_held3 (fun w' => w'.cell? ⟨w.heap.size, 0, none⟩ = some (.int .i64 k1) ∧ w'.cell? ⟨w.heap.size, 1, none⟩ = some (.int .i64 n1) ∧ w'.cell? ⟨w.heap.size, 2, none⟩ = some (.string ⟨#[]⟩) ∧ w'.cell? ⟨w.heap.size + 1, 0, none⟩ = some (.int .i64 k2) ∧ w'.cell? ⟨w.heap.size + 1, 1, none⟩ = some (.int .i64 n2) ∧ w'.cell? ⟨w.heap.size + 1, 2, none⟩ = some (.string ⟨#[]⟩)) (go_simp)
      (first | (go_at_call 95; refine (isNegative_any _ _ _).mono ?_; rintro e w' ⟨rfl, rfl⟩))
    all_goals go_wp2_with (first | (go_at_call 66; ((with_reducible refine (isNaN_not _ _ h1 h14 _).mono ?_); rintro e w' ⟨rfl, rfl⟩)) | (go_at_call 66; ((with_reducible refine (isNaN_not _ _ h2 h24 _).mono ?_); rintro e w' ⟨rfl, rfl⟩)) | (go_at_call 91; ((with_reducible refine (isInf_any _ _ _).mono ?_); rintro e w' ⟨rfl, rfl⟩)) | (go_at_call 96; ((with_reducible refine (isZero_any _ _ _).mono ?_); rintro e w' ⟨rfl, rfl⟩)) | (go_at_call 97; ((with_reducible refine (infinity_any _ _).mono ?_); rintro e w' ⟨rfl, rfl⟩)) | (go_at_call 98; ((with_reducible refine (zero_pos _).mono ?_); rintro e w' ⟨rfl, rfl⟩)) | (go_at_call 98; ((with_reducible refine (zero_neg _).mono ?_); rintro e w' ⟨rfl, rfl⟩)) | (go_at_call 92; ((with_reducible refine (nan_any _).mono ?_); rintro e w' ⟨rfl, rfl⟩)))
    all_goals exact bodyPost_ret (v := .tuple #[vv 5 1, .bool true]) (by simp [results, Tryd.results80, go_sem]) rfl ⟨rfl, by repeat (first | (with_reducible refine blw_alloc _ ?_) | (with_reducible refine Below.drew ?_) | (with_reducible exact Below.refl _ _))⟩
  · go_enter Tryd.func80, Tryd.ntmps80
    go_wp2
    go_region_held3 (fun w' => w'.cell? ⟨w.heap.size, 0, none⟩ = some (.int .i64 k1) ∧ w'.cell? ⟨w.heap.size, 1, none⟩ = some (.int .i64 n1) ∧ w'.cell? ⟨w.heap.size, 2, none⟩ = some (.string ⟨#[]⟩) ∧ w'.cell? ⟨w.heap.size + 1, 0, none⟩ = some (.int .i64 k2) ∧ w'.cell? ⟨w.heap.size + 1, 1, none⟩ = some (.int .i64 n2) ∧ w'.cell? ⟨w.heap.size + 1, 2, none⟩ = some (.string ⟨#[]⟩)) (go_simp)
      (first | (go_at_call 95; refine (isNegative_any _ _ _).mono ?_; rintro e w' ⟨rfl, rfl⟩))
    all_goals go_wp2_with (first | (go_at_call 66; ((with_reducible refine (isNaN_not _ _ h1 h14 _).mono ?_); rintro e w' ⟨rfl, rfl⟩)) | (go_at_call 66; ((with_reducible refine (isNaN_not _ _ h2 h24 _).mono ?_); rintro e w' ⟨rfl, rfl⟩)) | (go_at_call 91; ((with_reducible refine (isInf_any _ _ _).mono ?_); rintro e w' ⟨rfl, rfl⟩)) | (go_at_call 96; ((with_reducible refine (isZero_any _ _ _).mono ?_); rintro e w' ⟨rfl, rfl⟩)) | (go_at_call 97; ((with_reducible refine (infinity_any _ _).mono ?_); rintro e w' ⟨rfl, rfl⟩)) | (go_at_call 98; ((with_reducible refine (zero_pos _).mono ?_); rintro e w' ⟨rfl, rfl⟩)) | (go_at_call 98; ((with_reducible refine (zero_neg _).mono ?_); rintro e w' ⟨rfl, rfl⟩)) | (go_at_call 92; ((with_reducible refine (nan_any _).mono ?_); rintro e w' ⟨rfl, rfl⟩)))
    all_goals exact bodyPost_ret (v := .tuple #[vv 5 (-1), .bool true]) (by simp [results, Tryd.results80, go_sem]) rfl ⟨rfl, by repeat (first | (with_reducible refine blw_alloc _ ?_) | (with_reducible refine Below.drew ?_) | (with_reducible exact Below.refl _ _))⟩
  · go_enter Tryd.func80, Tryd.ntmps80
    go_wp2
    go_region_held3 (fun w' => w'.cell? ⟨w.heap.size, 0, none⟩ = some (.int .i64 k1) ∧ w'.cell? ⟨w.heap.size, 1, none⟩ = some (.int .i64 n1) ∧ w'.cell? ⟨w.heap.size, 2, none⟩ = some (.string ⟨#[]⟩) ∧ w'.cell? ⟨w.heap.size + 1, 0, none⟩ = some (.int .i64 k2) ∧ w'.cell? ⟨w.heap.size + 1, 1, none⟩ = some (.int .i64 n2) ∧ w'.cell? ⟨w.heap.size + 1, 2, none⟩ = some (.string ⟨#[]⟩)) (go_simp)
      (first | (go_at_call 95; refine (isNegative_any _ _ _).mono ?_; rintro e w' ⟨rfl, rfl⟩))
    all_goals go_wp2_with (first | (go_at_call 66; ((with_reducible refine (isNaN_not _ _ h1 h14 _).mono ?_); rintro e w' ⟨rfl, rfl⟩)) | (go_at_call 66; ((with_reducible refine (isNaN_not _ _ h2 h24 _).mono ?_); rintro e w' ⟨rfl, rfl⟩)) | (go_at_call 91; ((with_reducible refine (isInf_any _ _ _).mono ?_); rintro e w' ⟨rfl, rfl⟩)) | (go_at_call 96; ((with_reducible refine (isZero_any _ _ _).mono ?_); rintro e w' ⟨rfl, rfl⟩)) | (go_at_call 97; ((with_reducible refine (infinity_any _ _).mono ?_); rintro e w' ⟨rfl, rfl⟩)) | (go_at_call 98; ((with_reducible refine (zero_pos _).mono ?_); rintro e w' ⟨rfl, rfl⟩)) | (go_at_call 98; ((with_reducible refine (zero_neg _).mono ?_); rintro e w' ⟨rfl, rfl⟩)) | (go_at_call 92; ((with_reducible refine (nan_any _).mono ?_); rintro e w' ⟨rfl, rfl⟩)))
    all_goals exact bodyPost_ret (v := .tuple #[vv 5 (-1), .bool true]) (by simp [results, Tryd.results80, go_sem]) rfl ⟨rfl, by repeat (first | (with_reducible refine blw_alloc _ ?_) | (with_reducible refine Below.drew ?_) | (with_reducible exact Below.refl _ _))⟩
  · go_enter Tryd.func80, Tryd.ntmps80
    go_wp2
    go_region_held3 (fun w' => w'.cell? ⟨w.heap.size, 0, none⟩ = some (.int .i64 k1) ∧ w'.cell? ⟨w.heap.size, 1, none⟩ = some (.int .i64 n1) ∧ w'.cell? ⟨w.heap.size, 2, none⟩ = some (.string ⟨#[]⟩) ∧ w'.cell? ⟨w.heap.size + 1, 0, none⟩ = some (.int .i64 k2) ∧ w'.cell? ⟨w.heap.size + 1, 1, none⟩ = some (.int .i64 n2) ∧ w'.cell? ⟨w.heap.size + 1, 2, none⟩ = some (.string ⟨#[]⟩)) (go_simp)
      (first | (go_at_call 95; refine (isNegative_any _ _ _).mono ?_; rintro e w' ⟨rfl, rfl⟩))
    all_goals go_wp2_with (first | (go_at_call 66; ((with_reducible refine (isNaN_not _ _ h1 h14 _).mono ?_); rintro e w' ⟨rfl, rfl⟩)) | (go_at_call 66; ((with_reducible refine (isNaN_not _ _ h2 h24 _).mono ?_); rintro e w' ⟨rfl, rfl⟩)) | (go_at_call 91; ((with_reducible refine (isInf_any _ _ _).mono ?_); rintro e w' ⟨rfl, rfl⟩)) | (go_at_call 96; ((with_reducible refine (isZero_any _ _ _).mono ?_); rintro e w' ⟨rfl, rfl⟩)) | (go_at_call 97; ((with_reducible refine (infinity_any _ _).mono ?_); rintro e w' ⟨rfl, rfl⟩)) | (go_at_call 98; ((with_reducible refine (zero_pos _).mono ?_); rintro e w' ⟨rfl, rfl⟩)) | (go_at_call 98; ((with_reducible refine (zero_neg _).mono ?_); rintro e w' ⟨rfl, rfl⟩)) | (go_at_call 92; ((with_reducible refine (nan_any _).mono ?_); rintro e w' ⟨rfl, rfl⟩)))
    all_goals exact bodyPost_ret (v := .tuple #[vv 5 1, .bool true]) (by simp [results, Tryd.results80, go_sem]) rfl ⟨rfl, by repeat (first | (with_reducible refine blw_alloc _ ?_) | (with_reducible refine Below.drew ?_) | (with_reducible exact Below.refl _ _))⟩

set_option maxHeartbeats 800000 in
theorem div_p6 (k1 n1 k2 n2 : Int) (h1 : Num k1 n1) (h2 : Num k2 n2) (h14 : (k1 == 4) = false) (h24 : (k2 == 4) = false) (h15 : (k1 == 5) = false) (h1z : zerB k1 n1 = false) (h2z : zerB k2 n2 = true) (w : World) :
    Calls Tryd.prog 80 #[vv k1 n1, vv k2 n2] w fun e w' => e = .returned (.tuple #[vv 5 (if negB k1 n1 != negB k2 n2 then -1 else 1), .bool true]) ∧ Below w.heap.size w w' := by
  rcases hb1 : negB k1 n1 with _ | _ <;> rcases hb2 : negB k2 n2 with _ | _
  · go_enter Tryd.func80, Tryd.ntmps80
    go_wp2
    go_region_held3 (fun w' => w'.cell? ⟨w.heap.size, 0, none⟩ = some (.int .i64 k1) ∧ w'.cell? ⟨w.heap.size, 1, none⟩ = some (.int .i64 n1) ∧ w'.cell? ⟨w.heap.size, 2, none⟩ = some (.string ⟨#[]⟩) ∧ w'.cell? ⟨w.heap.size + 1, 0, none⟩ = some (.int .i64 k2) ∧ w'.cell? ⟨w.heap.size + 1, 1, none⟩ = some (.int .i64 n2) ∧ w'.cell? ⟨w.heap.size + 1, 2, none⟩ = some (.string ⟨#[]⟩)) (go_simp)
      (first | (go_at_call 95; refine (isNegative_any _ _ _).mono ?_; rintro e w' ⟨rfl, rfl⟩))
    all_goals go_wp2_with (first | (go_at_call 66; ((with_reducible refine (isNaN_not _ _ h1 h14 _).mono ?_); rintro e w' ⟨rfl, rfl⟩)) | (go_at_call 66; ((with_reducible refine (isNaN_not _ _ h2 h24 _).mono ?_); rintro e w' ⟨rfl, rfl⟩)) | (go_at_call 91; ((with_reducible refine (isInf_any _ _ _).mono ?_); rintro e w' ⟨rfl, rfl⟩)) | (go_at_call 96; ((with_reducible refine (isZero_any _ _ _).mono ?_); rintro e w' ⟨rfl, rfl⟩)) | (go_at_call 97; ((with_reducible refine (infinity_any _ _).mono ?_); rintro e w' ⟨rfl, rfl⟩)) | (go_at_call 98; ((with_reducible refine (zero_pos _).mono ?_); rintro e w' ⟨rfl, rfl⟩)) | (go_at_call 98; ((with_reducible refine (zero_neg _).mono ?_); rintro e w' ⟨rfl, rfl⟩)) | (go_at_call 92; ((with_reducible refine (nan_any _).mono ?_); rintro e w' ⟨rfl, rfl⟩)))
    all_goals exact bodyPost_ret (v := .tuple #[vv 5 1, .bool true]) (by simp [results, Tryd.results80, go_sem]) rfl ⟨rfl, by repeat (first | (with_reducible refine blw_alloc _ ?_) | (with_reducible refine Below.drew ?_) | (with_reducible exact Below.refl _ _))⟩
  · go_enter Tryd.func80, Tryd.ntmps80
    go_wp2
    go_region_held3 (fun w' => w'.cell? ⟨w.heap.size, 0, none⟩ = some (.int .i64 k1) ∧ w'.cell? ⟨w.heap.size, 1, none⟩ = some (.int .i64 n1) ∧ w'.cell? ⟨w.heap.size, 2, none⟩ = some (.string ⟨#[]⟩) ∧ w'.cell? ⟨w.heap.size + 1, 0, none⟩ = some (.int .i64 k2) ∧ w'.cell? ⟨w.heap.size + 1, 1, none⟩ = some (.int .i64 n2) ∧ w'.cell? ⟨w.heap.size + 1, 2, none⟩ = some (.string ⟨#[]⟩)) (go_simp)
      (first | (go_at_call 95; refine (isNegative_any _ _ _).mono ?_; rintro e w' ⟨rfl, rfl⟩))
    all_goals go_wp2_with (first | (go_at_call 66; ((with_reducible refine (isNaN_not _ _ h1 h14 _).mono ?_); rintro e w' ⟨rfl, rfl⟩)) | (go_at_call 66; ((with_reducible refine (isNaN_not _ _ h2 h24 _).mono ?_); rintro e w' ⟨rfl, rfl⟩)) | (go_at_call 91; ((with_reducible refine (isInf_any _ _ _).mono ?_); rintro e w' ⟨rfl, rfl⟩)) | (go_at_call 96; ((with_reducible refine (isZero_any _ _ _).mono ?_); rintro e w' ⟨rfl, rfl⟩)) | (go_at_call 97; ((with_reducible refine (infinity_any _ _).mono ?_); rintro e w' ⟨rfl, rfl⟩)) | (go_at_call 98; ((with_reducible refine (zero_pos _).mono ?_); rintro e w' ⟨rfl, rfl⟩)) | (go_at_call 98; ((with_reducible refine (zero_neg _).mono ?_); rintro e w' ⟨rfl, rfl⟩)) | (go_at_call 92; ((with_reducible refine (nan_any _).mono ?_); rintro e w' ⟨rfl, rfl⟩)))
    all_goals exact bodyPost_ret (v := .tuple #[vv 5 (-1), .bool true]) (by simp [results, Tryd.results80, go_sem]) rfl ⟨rfl, by repeat (first | (with_reducible refine blw_alloc _ ?_) | (with_reducible refine Below.drew ?_) | (with_reducible exact Below.refl _ _))⟩
  · go_enter Tryd.func80, Tryd.ntmps80
    go_wp2
    go_region_held3 (fun w' => w'.cell? ⟨w.heap.size, 0, none⟩ = some (.int .i64 k1) ∧ w'.cell? ⟨w.heap.size, 1, none⟩ = some (.int .i64 n1) ∧ w'.cell? ⟨w.heap.size, 2, none⟩ = some (.string ⟨#[]⟩) ∧ w'.cell? ⟨w.heap.size + 1, 0, none⟩ = some (.int .i64 k2) ∧ w'.cell? ⟨w.heap.size + 1, 1, none⟩ = some (.int .i64 n2) ∧ w'.cell? ⟨w.heap.size + 1, 2, none⟩ = some (.string ⟨#[]⟩)) (go_simp)
      (first | (go_at_call 95; refine (isNegative_any _ _ _).mono ?_; rintro e w' ⟨rfl, rfl⟩))
    all_goals go_wp2_with (first | (go_at_call 66; ((with_reducible refine (isNaN_not _ _ h1 h14 _).mono ?_); rintro e w' ⟨rfl, rfl⟩)) | (go_at_call 66; ((with_reducible refine (isNaN_not _ _ h2 h24 _).mono ?_); rintro e w' ⟨rfl, rfl⟩)) | (go_at_call 91; ((with_reducible refine (isInf_any _ _ _).mono ?_); rintro e w' ⟨rfl, rfl⟩)) | (go_at_call 96; ((with_reducible refine (isZero_any _ _ _).mono ?_); rintro e w' ⟨rfl, rfl⟩)) | (go_at_call 97; ((with_reducible refine (infinity_any _ _).mono ?_); rintro e w' ⟨rfl, rfl⟩)) | (go_at_call 98; ((with_reducible refine (zero_pos _).mono ?_); rintro e w' ⟨rfl, rfl⟩)) | (go_at_call 98; ((with_reducible refine (zero_neg _).mono ?_); rintro e w' ⟨rfl, rfl⟩)) | (go_at_call 92; ((with_reducible refine (nan_any _).mono ?_); rintro e w' ⟨rfl, rfl⟩)))
    all_goals exact bodyPost_ret (v := .tuple #[vv 5 (-1), .bool true]) (by simp [results, Tryd.results80, go_sem]) rfl ⟨rfl, by repeat (first | (with_reducible refine blw_alloc _ ?_) | (with_reducible refine Below.drew ?_) | (with_reducible exact Below.refl _ _))⟩
  · go_enter Tryd.func80, Tryd.ntmps80
    go_wp2
    go_region_held3 (fun w' => w'.cell? ⟨w.heap.size, 0, none⟩ = some (.int .i64 k1) ∧ w'.cell? ⟨w.heap.size, 1, none⟩ = some (.int .i64 n1) ∧ w'.cell? ⟨w.heap.size, 2, none⟩ = some (.string ⟨#[]⟩) ∧ w'.cell? ⟨w.heap.size + 1, 0, none⟩ = some (.int .i64 k2) ∧ w'.cell? ⟨w.heap.size + 1, 1, none⟩ = some (.int .i64 n2) ∧ w'.cell? ⟨w.heap.size + 1, 2, none⟩ = some (.string ⟨#[]⟩)) (go_simp)
      (first | (go_at_call 95; refine (isNegative_any _ _ _).mono ?_; rintro e w' ⟨rfl, rfl⟩))
    all_goals go_wp2_with (first | (go_at_call 66; ((with_reducible refine (isNaN_not _ _ h1 h14 _).mono ?_); rintro e w' ⟨rfl, rfl⟩)) | (go_at_call 66; ((with_reducible refine (isNaN_not _ _ h2 h24 _).mono ?_); rintro e w' ⟨rfl, rfl⟩)) | (go_at_call 91; ((with_reducible refine (isInf_any _ _ _).mono ?_); rintro e w' ⟨rfl, rfl⟩)) | (go_at_call 96; ((with_reducible refine (isZero_any _ _ _).mono ?_); rintro e w' ⟨rfl, rfl⟩)) | (go_at_call 97; ((with_reducible refine (infinity_any _ _).mono ?_); rintro e w' ⟨rfl, rfl⟩)) | (go_at_call 98; ((with_reducible refine (zero_pos _).mono ?_); rintro e w' ⟨rfl, rfl⟩)) | (go_at_call 98; ((with_reducible refine (zero_neg _).mono ?_); rintro e w' ⟨rfl, rfl⟩)) | (go_at_call 92; ((with_reducible refine (nan_any _).mono ?_); rintro e w' ⟨rfl, rfl⟩)))
    all_goals exact bodyPost_ret (v := .tuple #[vv 5 1, .bool true]) (by simp [results, Tryd.results80, go_sem]) rfl ⟨rfl, by repeat (first | (with_reducible refine blw_alloc _ ?_) | (with_reducible refine Below.drew ?_) | (with_reducible exact Below.refl _ _))⟩

set_option maxHeartbeats 800000 in
theorem div_p7 (k1 n1 k2 n2 : Int) (h1 : Num k1 n1) (h2 : Num k2 n2) (h14 : (k1 == 4) = false) (h24 : (k2 == 4) = false) (h15 : (k1 == 5) = false) (h1z : zerB k1 n1 = true) (h2z : zerB k2 n2 = false) (h25 : (k2 == 5) = true) (w : World) :
    Calls Tryd.prog 80 #[vv k1 n1, vv k2 n2] w fun e w' => e = .returned (.tuple #[vv (if negB k1 n1 != negB k2 n2 then 6 else 3) 0, .bool true]) ∧ Below w.heap.size w w' := by
  rcases hb1 : negB k1 n1 with _ | _ <;> rcases hb2 : negB k2 n2 with _ | _
  · go_enter Tryd.func80, Tryd.ntmps80
    go_wp2
    go_region_held3 (fun w' => w'.cell? ⟨w.heap.size, 0, none⟩ = some (.int .i64 k1) ∧ w'.cell? ⟨w.heap.size, 1, none⟩ = some (.int .i64 n1) ∧ w'.cell? ⟨w.heap.size, 2, none⟩ = some (.string ⟨#[]⟩) ∧ w'.cell? ⟨w.heap.size + 1, 0, none⟩ = some (.int .i64 k2) ∧ w'.cell? ⟨w.heap.size + 1, 1, none⟩ = some (.int .i64 n2) ∧ w'.cell? ⟨w.heap.size + 1, 2, none⟩ = some (.string ⟨#[]⟩)) (go_simp)
      (first | (go_at_call 95; refine (isNegative_any _ _ _).mono ?_; rintro e w' ⟨rfl, rfl⟩))
    all_goals go_wp2_with (first | (go_at_call 66; ((with_reducible refine (isNaN_not _ _ h1 h14 _).mono ?_); rintro e w' ⟨rfl, rfl⟩)) | (go_at_call 66; ((with_reducible refine (isNaN_not _ _ h2 h24 _).mono ?_); rintro e w' ⟨rfl, rfl⟩)) | (go_at_call 91; ((with_reducible refine (isInf_any _ _ _).mono ?_); rintro e w' ⟨rfl, rfl⟩)) | (go_at_call 96; ((with_reducible refine (isZero_any _ _ _).mono ?_); rintro e w' ⟨rfl, rfl⟩)) | (go_at_call 97; ((with_reducible refine (infinity_any _ _).mono ?_); rintro e w' ⟨rfl, rfl⟩)) | (go_at_call 98; ((with_reducible refine (zero_pos _).mono ?_); rintro e w' ⟨rfl, rfl⟩)) | (go_at_call 98; ((with_reducible refine (zero_neg _).mono ?_); rintro e w' ⟨rfl, rfl⟩)) | (go_at_call 92; ((with_reducible refine (nan_any _).mono ?_); rintro e w' ⟨rfl, rfl⟩)))
    all_goals exact bodyPost_ret (v := .tuple #[vv 3 0, .bool true]) (by simp [results, Tryd.results80, go_sem]) rfl ⟨rfl, by repeat (first | (with_reducible refine blw_alloc _ ?_) | (with_reducible refine Below.drew ?_) | (with_reducible exact Below.refl _ _))⟩
  · go_enter Tryd.func80, Tryd.ntmps80
    go_wp2
    go_region_held3 (fun w' => w'.cell? ⟨w.heap.size, 0, none⟩ = some (.int .i64 k1) ∧ w'.cell? ⟨w.heap.size, 1, none⟩ = some (.int .i64 n1) ∧ w'.cell? ⟨w.heap.size, 2, none⟩ = some (.string ⟨#[]⟩) ∧ w'.cell? ⟨w.heap.size + 1, 0, none⟩ = some (.int .i64 k2) ∧ w'.cell? ⟨w.heap.size + 1, 1, none⟩ = some (.int .i64 n2) ∧ w'.cell? ⟨w.heap.size + 1, 2, none⟩ = some (.string ⟨#[]⟩)) (go_simp)
      (first | (go_at_call 95; refine (isNegative_any _ _ _).mono ?_; rintro e w' ⟨rfl, rfl⟩))
    all_goals go_wp2_with (first | (go_at_call 66; ((with_reducible refine (isNaN_not _ _ h1 h14 _).mono ?_); rintro e w' ⟨rfl, rfl⟩)) | (go_at_call 66; ((with_reducible refine (isNaN_not _ _ h2 h24 _).mono ?_); rintro e w' ⟨rfl, rfl⟩)) | (go_at_call 91; ((with_reducible refine (isInf_any _ _ _).mono ?_); rintro e w' ⟨rfl, rfl⟩)) | (go_at_call 96; ((with_reducible refine (isZero_any _ _ _).mono ?_); rintro e w' ⟨rfl, rfl⟩)) | (go_at_call 97; ((with_reducible refine (infinity_any _ _).mono ?_); rintro e w' ⟨rfl, rfl⟩)) | (go_at_call 98; ((with_reducible refine (zero_pos _).mono ?_); rintro e w' ⟨rfl, rfl⟩)) | (go_at_call 98; ((with_reducible refine (zero_neg _).mono ?_); rintro e w' ⟨rfl, rfl⟩)) | (go_at_call 92; ((with_reducible refine (nan_any _).mono ?_); rintro e w' ⟨rfl, rfl⟩)))
    all_goals exact bodyPost_ret (v := .tuple #[vv 6 0, .bool true]) (by simp [results, Tryd.results80, go_sem]) rfl ⟨rfl, by repeat (first | (with_reducible refine blw_alloc _ ?_) | (with_reducible refine Below.drew ?_) | (with_reducible exact Below.refl _ _))⟩
  · go_enter Tryd.func80, Tryd.ntmps80
    go_wp2
    go_region_held3 (fun w' => w'.cell? ⟨w.heap.size, 0, none⟩ = some (.int .i64 k1) ∧ w'.cell? ⟨w.heap.size, 1, none⟩ = some (.int .i64 n1) ∧ w'.cell? ⟨w.heap.size, 2, none⟩ = some (.string ⟨#[]⟩) ∧ w'.cell? ⟨w.heap.size + 1, 0, none⟩ = some (.int .i64 k2) ∧ w'.cell? ⟨w.heap.size + 1, 1, none⟩ = some (.int .i64 n2) ∧ w'.cell? ⟨w.heap.size + 1, 2, none⟩ = some (.string ⟨#[]⟩)) (go_simp)
      (first | (go_at_call 95; refine (isNegative_any _ _ _).mono ?_; rintro e w' ⟨rfl, rfl⟩))
    all_goals go_wp2_with (first | (go_at_call 66; ((with_reducible refine (isNaN_not _ _ h1 h14 _).mono ?_); rintro e w' ⟨rfl, rfl⟩)) | (go_at_call 66; ((with_reducible refine (isNaN_not _ _ h2 h24 _).mono ?_); rintro e w' ⟨rfl, rfl⟩)) | (go_at_call 91; ((with_reducible refine (isInf_any _ _ _).mono ?_); rintro e w' ⟨rfl, rfl⟩)) | (go_at_call 96; ((with_reducible refine (isZero_any _ _ _).mono ?_); rintro e w' ⟨rfl, rfl⟩)) | (go_at_call 97; ((with_reducible refine (infinity_any _ _).mono ?_); rintro e w' ⟨rfl, rfl⟩)) | (go_at_call 98; ((with_reducible refine (zero_pos _).mono ?_); rintro e w' ⟨rfl, rfl⟩)) | (go_at_call 98; ((with_reducible refine (zero_neg _).mono ?_); rintro e w' ⟨rfl, rfl⟩)) | (go_at_call 92; ((with_reducible refine (nan_any _).mono ?_); rintro e w' ⟨rfl, rfl⟩)))
    all_goals exact bodyPost_ret (v := .tuple #[vv 6 0, .bool true]) (by simp [results, Tryd.results80, go_sem]) rfl ⟨rfl, by repeat (first | (with_reducible refine blw_alloc _ ?_) | (with_reducible refine Below.drew ?_) | (with_reducible exact Below.refl _ _))⟩
  · go_enter Tryd.func80, Tryd.ntmps80
    go_wp2
    go_region_held3 (fun w' => w'.cell? ⟨w.heap.size, 0, none⟩ = some (.int .i64 k1) ∧ w'.cell? ⟨w.heap.size, 1, none⟩ = some (.int .i64 n1) ∧ w'.cell? ⟨w.heap.size, 2, none⟩ = some (.string ⟨#[]⟩) ∧ w'.cell? ⟨w.heap.size + 1, 0, none⟩ = some (.int .i64 k2) ∧ w'.cell? ⟨w.heap.size + 1, 1, none⟩ = some (.int .i64 n2) ∧ w'.cell? ⟨w.heap.size + 1, 2, none⟩ = some (.string ⟨#[]⟩)) (go_simp)
      (first | (go_at_call 95; refine (isNegative_any _ _ _).mono ?_; rintro e w' ⟨rfl, rfl⟩))
    all_goals go_wp2_with (first | (go_at_call 66; ((with_reducible refine (isNaN_not _ _ h1 h14 _).mono ?_); rintro e w' ⟨rfl, rfl⟩)) | (go_at_call 66; ((with_reducible refine (isNaN_not _ _ h2 h24 _).mono ?_); rintro e w' ⟨rfl, rfl⟩)) | (go_at_call 91; ((with_reducible refine (isInf_any _ _ _).mono ?_); rintro e w' ⟨rfl, rfl⟩)) | (go_at_call 96; ((with_reducible refine (isZero_any _ _ _).mono ?_); rintro e w' ⟨rfl, rfl⟩)) | (go_at_call 97; ((with_reducible refine (infinity_any _ _).mono ?_); rintro e w' ⟨rfl, rfl⟩)) | (go_at_call 98; ((with_reducible refine (zero_pos _).mono ?_); rintro e w' ⟨rfl, rfl⟩)) | (go_at_call 98; ((with_reducible refine (zero_neg _).mono ?_); rintro e w' ⟨rfl, rfl⟩)) | (go_at_call 92; ((with_reducible refine (nan_any _).mono ?_); rintro e w' ⟨rfl, rfl⟩)))
    all_goals exact bodyPost_ret (v := .tuple #[vv 3 0, .bool true]) (by simp [results, Tryd.results80, go_sem]) rfl ⟨rfl, by repeat (first | (with_reducible refine blw_alloc _ ?_) | (with_reducible refine Below.drew ?_) | (with_reducible exact Below.refl _ _))⟩

set_option maxHeartbeats 800000 in
theorem div_p7b (k1 n1 k2 n2 : Int) (h1 : Num k1 n1) (h2 : Num k2 n2) (h14 : (k1 == 4) = false) (h24 : (k2 == 4) = false) (h15 : (k1 == 5) = false) (h1z : zerB k1 n1 = false) (h2z : zerB k2 n2 = false) (h25 : (k2 == 5) = true) (w : World) :
    Calls Tryd.prog 80 #[vv k1 n1, vv k2 n2] w fun e w' => e = .returned (.tuple #[vv (if negB k1 n1 != negB k2 n2 then 6 else 3) 0, .bool true]) ∧ Below w.heap.size w w' := by
  rcases hb1 : negB k1 n1 with _ | _ <;> rcases hb2 : negB k2 n2 with _ | _
  · go_enter Tryd.func80, Tryd.ntmps80
    go_wp2
    go_region_held3 (fun w' => w'.cell? ⟨w.heap.size, 0, none⟩ = some (.int .i64 k1) ∧ w'.cell? ⟨w.heap.size, 1, none⟩ = some (.int .i64 n1) ∧ w'.cell? ⟨w.heap.size, 2, none⟩ = some (.string ⟨#[]⟩) ∧ w'.cell? ⟨w.heap.size + 1, 0, none⟩ = some (.int .i64 k2) ∧ w'.cell? ⟨w.heap.size + 1, 1, none⟩ = some (.int .i64 n2) ∧ w'.cell? ⟨w.heap.size + 1, 2, none⟩ = some (.string ⟨#[]⟩)) (go_simp)
      (first | (go_at_call 95; refine (isNegative_any _ _ _).mono ?_; rintro e w' ⟨rfl, rfl⟩))
    all_goals go_wp2_with (first | (go_at_call 66; ((with_reducible refine (isNaN_not _ _ h1 h14 _).mono ?_); rintro e w' ⟨rfl, rfl⟩)) | (go_at_call 66; ((with_reducible refine (isNaN_not _ _ h2 h24 _).mono ?_); rintro e w' ⟨rfl, rfl⟩)) | (go_at_call 91; ((with_reducible refine (isInf_any _ _ _).mono ?_); rintro e w' ⟨rfl, rfl⟩)) | (go_at_call 96; ((with_reducible refine (isZero_any _ _ _).mono ?_); rintro e w' ⟨rfl, rfl⟩)) | (go_at_call 97; ((with_reducible refine (infinity_any _ _).mono ?_); rintro e w' ⟨rfl, rfl⟩)) | (go_at_call 98; ((with_reducible refine (zero_pos _).mono ?_); rintro e w' ⟨rfl, rfl⟩)) | (go_at_call 98; ((with_reducible refine (zero_neg _).mono ?_); rintro e w' ⟨rfl, rfl⟩)) | (go_at_call 92; ((with_reducible refine (nan_any _).mono ?_); rintro e w' ⟨rfl, rfl⟩)))
    all_goals exact bodyPost_ret (v := .tuple #[vv 3 0, .bool true]) (by simp [results, Tryd.results80, go_sem]) rfl ⟨rfl, by repeat (first | (with_reducible refine blw_alloc _ ?_) | (with_reducible refine Below.drew ?_) | (with_reducible exact Below.refl _ _))⟩
  · go_enter Tryd.func80, Tryd.ntmps80
    go_wp2
    go_region_held3 (fun w' => w'.cell? ⟨w.heap.size, 0, none⟩ = some (.int .i64 k1) ∧ w'.cell? ⟨w.heap.size, 1, none⟩ = some (.int .i64 n1) ∧ w'.cell? ⟨w.heap.size, 2, none⟩ = some (.string ⟨#[]⟩) ∧ w'.cell? ⟨w.heap.size + 1, 0, none⟩ = some (.int .i64 k2) ∧ w'.cell? ⟨w.heap.size + 1, 1, none⟩ = some (.int .i64 n2) ∧ w'.cell? ⟨w.heap.size + 1, 2, none⟩ = some (.string ⟨#[]⟩)) (go_simp)
      (first | (go_at_call 95; refine (isNegative_any _ _ _).mono ?_; rintro e w' ⟨rfl, rfl⟩))
    all_goals go_wp2_with (first | (go_at_call 66; ((with_reducible refine (isNaN_not _ _ h1 h14 _).mono ?_); rintro e w' ⟨rfl, rfl⟩)) | (go_at_call 66; ((with_reducible refine (isNaN_not _ _ h2 h24 _).mono ?_); rintro e w' ⟨rfl, rfl⟩)) | (go_at_call 91; ((with_reducible refine (isInf_any _ _ _).mono ?_); rintro e w' ⟨rfl, rfl⟩)) | (go_at_call 96; ((with_reducible refine (isZero_any _ _ _).mono ?_); rintro e w' ⟨rfl, rfl⟩)) | (go_at_call 97; ((with_reducible refine (infinity_any _ _).mono ?_); rintro e w' ⟨rfl, rfl⟩)) | (go_at_call 98; ((with_reducible refine (zero_pos _).mono ?_); rintro e w' ⟨rfl, rfl⟩)) | (go_at_call 98; ((with_reducible refine (zero_neg _).mono ?_); rintro e w' ⟨rfl, rfl⟩)) | (go_at_call 92; ((with_reducible refine (nan_any _).mono ?_); rintro e w' ⟨rfl, rfl⟩)))
    all_goals exact bodyPost_ret (v := .tuple #[vv 6 0, .bool true]) (by simp [results, Tryd.results80, go_sem]) rfl ⟨rfl, by repeat (first | (with_reducible refine blw_alloc _ ?_) | (with_reducible refine Below.drew ?_) | (with_reducible exact Below.refl _ _))⟩
  · go_enter Tryd.func80, Tryd.ntmps80
    go_wp2
    go_region_held3 (fun w' => w'.cell? ⟨w.heap.size, 0, none⟩ = some (.int .i64 k1) ∧ w'.cell? ⟨w.heap.size, 1, none⟩ = some (.int .i64 n1) ∧ w'.cell? ⟨w.heap.size, 2, none⟩ = some (.string ⟨#[]⟩) ∧ w'.cell? ⟨w.heap.size + 1, 0, none⟩ = some (.int .i64 k2) ∧ w'.cell? ⟨w.heap.size + 1, 1, none⟩ = some (.int .i64 n2) ∧ w'.cell? ⟨w.heap.size + 1, 2, none⟩ = some (.string ⟨#[]⟩)) (go_simp)
      (first | (go_at_call 95; refine (isNegative_any _ _ _).mono ?_; rintro e w' ⟨rfl, rfl⟩))
    all_goals go_wp2_with (first | (go_at_call 66; ((with_reducible refine (isNaN_not _ _ h1 h14 _).mono ?_); rintro e w' ⟨rfl, rfl⟩)) | (go_at_call 66; ((with_reducible refine (isNaN_not _ _ h2 h24 _).mono ?_); rintro e w' ⟨rfl, rfl⟩)) | (go_at_call 91; ((with_reducible refine (isInf_any _ _ _).mono ?_); rintro e w' ⟨rfl, rfl⟩)) | (go_at_call 96; ((with_reducible refine (isZero_any _ _ _).mono ?_); rintro e w' ⟨rfl, rfl⟩)) | (go_at_call 97; ((with_reducible refine (infinity_any _ _).mono ?_); rintro e w' ⟨rfl, rfl⟩)) | (go_at_call 98; ((with_reducible refine (zero_pos _).mono ?_); rintro e w' ⟨rfl, rfl⟩)) | (go_at_call 98; ((with_reducible refine (zero_neg _).mono ?_); rintro e w' ⟨rfl, rfl⟩)) | (go_at_call 92; ((with_reducible refine (nan_any _).mono ?_); rintro e w' ⟨rfl, rfl⟩)))
    all_goals exact bodyPost_ret (v := .tuple #[vv 6 0, .bool true]) (by simp [results, Tryd.results80, go_sem]) rfl ⟨rfl, by repeat (first | (with_reducible refine blw_alloc _ ?_) | (with_reducible refine Below.drew ?_) | (with_reducible exact Below.refl _ _))⟩
  · go_enter Tryd.func80, Tryd.ntmps80
    go_wp2
    go_region_held3 (fun w' => w'.cell? ⟨w.heap.size, 0, none⟩ = some (.int .i64 k1) ∧ w'.cell? ⟨w.heap.size, 1, none⟩ = some (.int .i64 n1) ∧ w'.cell? ⟨w.heap.size, 2, none⟩ = some (.string ⟨#[]⟩) ∧ w'.cell? ⟨w.heap.size + 1, 0, none⟩ = some (.int .i64 k2) ∧ w'.cell? ⟨w.heap.size + 1, 1, none⟩ = some (.int .i64 n2) ∧ w'.cell? ⟨w.heap.size + 1, 2, none⟩ = some (.string ⟨#[]⟩)) (go_simp)
      (first | (go_at_call 95; refine (isNegative_any _ _ _).mono ?_; rintro e w' ⟨rfl, rfl⟩))
    all_goals go_wp2_with (first | (go_at_call 66; ((with_reducible refine (isNaN_not _ _ h1 h14 _).mono ?_); rintro e w' ⟨rfl, rfl⟩)) | (go_at_call 66; ((with_reducible refine (isNaN_not _ _ h2 h24 _).mono ?_); rintro e w' ⟨rfl, rfl⟩)) | (go_at_call 91; ((with_reducible refine (isInf_any _ _ _).mono ?_); rintro e w' ⟨rfl, rfl⟩)) | (go_at_call 96; ((with_reducible refine (isZero_any _ _ _).mono ?_); rintro e w' ⟨rfl, rfl⟩)) | (go_at_call 97; ((with_reducible refine (infinity_any _ _).mono ?_); rintro e w' ⟨rfl, rfl⟩)) | (go_at_call 98; ((with_reducible refine (zero_pos _).mono ?_); rintro e w' ⟨rfl, rfl⟩)) | (go_at_call 98; ((with_reducible refine (zero_neg _).mono ?_); rintro e w' ⟨rfl, rfl⟩)) | (go_at_call 92; ((with_reducible refine (nan_any _).mono ?_); rintro e w' ⟨rfl, rfl⟩)))
    all_goals exact bodyPost_ret (v := .tuple #[vv 3 0, .bool true]) (by simp [results, Tryd.results80, go_sem]) rfl ⟨rfl, by repeat (first | (with_reducible refine blw_alloc _ ?_) | (with_reducible refine Below.drew ?_) | (with_reducible exact Below.refl _ _))⟩

set_option maxHeartbeats 800000 in
theorem div_p8 (k1 n1 k2 n2 : Int) (h1 : Num k1 n1) (h2 : Num k2 n2) (h14 : (k1 == 4) = false) (h24 : (k2 == 4) = false) (h15 : (k1 == 5) = false) (h1z : zerB k1 n1 = true) (h2z : zerB k2 n2 = false) (h25 : (k2 == 5) = false) (w : World) :
    Calls Tryd.prog 80 #[vv k1 n1, vv k2 n2] w fun e w' => e = .returned (.tuple #[vv (if negB k1 n1 != negB k2 n2 then 6 else 3) 0, .bool true]) ∧ Below w.heap.size w w' := by
  rcases hb1 : negB k1 n1 with _ | _ <;> rcases hb2 : negB k2 n2 with _ | _
  · go_enter Tryd.func80, Tryd.ntmps80
    go_wp2
    go_region_held3 (fun w' => w'.cell? ⟨w.heap.size, 0, none⟩ = some (.int .i64 k1) ∧ w'.cell? ⟨w.heap.size, 1, none⟩ = some (.int .i64 n1) ∧ w'.cell? ⟨w.heap.size, 2, none⟩ = some (.string ⟨#[]⟩) ∧ w'.cell? ⟨w.heap.size + 1, 0, none⟩ = some (.int .i64 k2) ∧ w'.cell? ⟨w.heap.size + 1, 1, none⟩ = some (.int .i64 n2) ∧ w'.cell? ⟨w.heap.size + 1, 2, none⟩ = some (.string ⟨#[]⟩)) (go_simp)
      (first | (go_at_call 95; refine (isNegative_any _ _ _).mono ?_; rintro e w' ⟨rfl, rfl⟩))
    all_goals go_wp2_with (first | (go_at_call 66; ((with_reducible refine (isNaN_not _ _ h1 h14 _).mono ?_); rintro e w' ⟨rfl, rfl⟩)) | (go_at_call 66; ((with_reducible refine (isNaN_not _ _ h2 h24 _).mono ?_); rintro e w' ⟨rfl, rfl⟩)) | (go_at_call 91; ((with_reducible refine (isInf_any _ _ _).mono ?_); rintro e w' ⟨rfl, rfl⟩)) | (go_at_call 96; ((with_reducible refine (isZero_any _ _ _).mono ?_); rintro e w' ⟨rfl, rfl⟩)) | (go_at_call 97; ((with_reducible refine (infinity_any _ _).mono ?_); rintro e w' ⟨rfl, rfl⟩)) | (go_at_call 98; ((with_reducible refine (zero_pos _).mono ?_); rintro e w' ⟨rfl, rfl⟩)) | (go_at_call 98; ((with_reducible refine (zero_neg _).mono ?_); rintro e w' ⟨rfl, rfl⟩)) | (go_at_call 92; ((with_reducible refine (nan_any _).mono ?_); rintro e w' ⟨rfl, rfl⟩)))
    all_goals exact bodyPost_ret (v := .tuple #[vv 3 0, .bool true]) (by simp [results, Tryd.results80, go_sem]) rfl ⟨rfl, by repeat (first | (with_reducible refine blw_alloc _ ?_) | (with_reducible refine Below.drew ?_) | (with_reducible exact Below.refl _ _))⟩
  · go_enter Tryd.func80, Tryd.ntmps80
    go_wp2
    go_region_held3 (fun w' => w'.cell? ⟨w.heap.size, 0, none⟩ = some (.int .i64 k1) ∧ w'.cell? ⟨w.heap.size, 1, none⟩ = some (.int .i64 n1) ∧ w'.cell? ⟨w.heap.size, 2, none⟩ = some (.string ⟨#[]⟩) ∧ w'.cell? ⟨w.heap.size + 1, 0, none⟩ = some (.int .i64 k2) ∧ w'.cell? ⟨w.heap.size + 1, 1, none⟩ = some (.int .i64 n2) ∧ w'.cell? ⟨w.heap.size + 1, 2, none⟩ = some (.string ⟨#[]⟩)) (go_simp)
      (first | (go_at_call 95; refine (isNegative_any _ _ _).mono ?_; rintro e w' ⟨rfl, rfl⟩))
    all_goals go_wp2_with (first | (go_at_call 66; ((with_reducible refine (isNaN_not _ _ h1 h14 _).mono ?_); rintro e w' ⟨rfl, rfl⟩)) | (go_at_call 66; ((with_reducible refine (isNaN_not _ _ h2 h24 _).mono ?_); rintro e w' ⟨rfl, rfl⟩)) | (go_at_call 91; ((with_reducible refine (isInf_any _ _ _).mono ?_); rintro e w' ⟨rfl, rfl⟩)) | (go_at_call 96; ((with_reducible refine (isZero_any _ _ _).mono ?_); rintro e w' ⟨rfl, rfl⟩)) | (go_at_call 97; ((with_reducible refine (infinity_any _ _).mono ?_); rintro e w' ⟨rfl, rfl⟩)) | (go_at_call 98; ((with_reducible refine (zero_pos _).mono ?_); rintro e w' ⟨rfl, rfl⟩)) | (go_at_call 98; ((with_reducible refine (zero_neg _).mono ?_); rintro e w' ⟨rfl, rfl⟩)) | (go_at_call 92; ((with_reducible refine (nan_any _).mono ?_); rintro e w' ⟨rfl, rfl⟩)))
    all_goals exact bodyPost_ret (v := .tuple #[vv 6 0, .bool true]) (by simp [results, Tryd.results80, go_sem]) rfl ⟨rfl, by repeat (first | (with_reducible refine blw_alloc _ ?_) | (with_reducible refine Below.drew ?_) | (with_reducible exact Below.refl _ _))⟩
  · go_enter Tryd.func80, Tryd.ntmps80
    go_wp2
    go_region_held3 (fun w' => w'.cell? ⟨w.heap.size, 0, none⟩ = some (.int .i64 k1) ∧ w'.cell? ⟨w.heap.size, 1, none⟩ = some (.int .i64 n1) ∧ w'.cell? ⟨w.heap.size, 2, none⟩ = some (.string ⟨#[]⟩) ∧ w'.cell? ⟨w.heap.size + 1, 0, none⟩ = some (.int .i64 k2) ∧ w'.cell? ⟨w.heap.size + 1, 1, none⟩ = some (.int .i64 n2) ∧ w'.cell? ⟨w.heap.size + 1, 2, none⟩ = some (.string ⟨#[]⟩)) (go_simp)
      (first | (go_at_call 95; refine (isNegative_any _ _ _).mono ?_; rintro e w' ⟨rfl, rfl⟩))
    all_goals go_wp2_with (first | (go_at_call 66; ((with_reducible refine (isNaN_not _ _ h1 h14 _).mono ?_); rintro e w' ⟨rfl, rfl⟩)) | (go_at_call 66; ((with_reducible refine (isNaN_not _ _ h2 h24 _).mono ?_); rintro e w' ⟨rfl, rfl⟩)) | (go_at_call 91; ((with_reducible refine (isInf_any _ _ _).mono ?_); rintro e w' ⟨rfl, rfl⟩)) | (go_at_call 96; ((with_reducible refine (isZero_any _ _ _).mono ?_); rintro e w' ⟨rfl, rfl⟩)) | (go_at_call 97; ((with_reducible refine (infinity_any _ _).mono ?_); rintro e w' ⟨rfl, rfl⟩)) | (go_at_call 98; ((with_reducible refine (zero_pos _).mono ?_); rintro e w' ⟨rfl, rfl⟩)) | (go_at_call 98; ((with_reducible refine (zero_neg _).mono ?_); rintro e w' ⟨rfl, rfl⟩)) | (go_at_call 92; ((with_reducible refine (nan_any _).mono ?_); rintro e w' ⟨rfl, rfl⟩)))
    all_goals exact bodyPost_ret (v := .tuple #[vv 6 0, .bool true]) (by simp [results, Tryd.results80, go_sem]) rfl ⟨rfl, by repeat (first | (with_reducible refine blw_alloc _ ?_) | (with_reducible refine Below.drew ?_) | (with_reducible exact Below.refl _ _))⟩
  · go_enter Tryd.func80, Tryd.ntmps80
    go_wp2
    go_region_held3 (fun w' => w'.cell? ⟨w.heap.size, 0, none⟩ = some (.int .i64 k1) ∧ w'.cell? ⟨w.heap.size, 1, none⟩ = some (.int .i64 n1) ∧ w'.cell? ⟨w.heap.size, 2, none⟩ = some (.string ⟨#[]⟩) ∧ w'.cell? ⟨w.heap.size + 1, 0, none⟩ = some (.int .i64 k2) ∧ w'.cell? ⟨w.heap.size + 1, 1, none⟩ = some (.int .i64 n2) ∧ w'.cell? ⟨w.heap.size + 1, 2, none⟩ = some (.string ⟨#[]⟩)) (go_simp)
      (first | (go_at_call 95; refine (isNegative_any _ _ _).mono ?_; rintro e w' ⟨rfl, rfl⟩))
    all_goals go_wp2_with (first | (go_at_call 66; ((with_reducible refine (isNaN_not _ _ h1 h14 _).mono ?_); rintro e w' ⟨rfl, rfl⟩)) | (go_at_call 66; ((with_reducible refine (isNaN_not _ _ h2 h24 _).mono ?_); rintro e w' ⟨rfl, rfl⟩)) | (go_at_call 91; ((with_reducible refine (isInf_any _ _ _).mono ?_); rintro e w' ⟨rfl, rfl⟩)) | (go_at_call 96; ((with_reducible refine (isZero_any _ _ _).mono ?_); rintro e w' ⟨rfl, rfl⟩)) | (go_at_call 97; ((with_reducible refine (infinity_any _ _).mono ?_); rintro e w' ⟨rfl, rfl⟩)) | (go_at_call 98; ((with_reducible refine (zero_pos _).mono ?_); rintro e w' ⟨rfl, rfl⟩)) | (go_at_call 98; ((with_reducible refine (zero_neg _).mono ?_); rintro e w' ⟨rfl, rfl⟩)) | (go_at_call 92; ((with_reducible refine (nan_any _).mono ?_); rintro e w' ⟨rfl, rfl⟩)))
    all_goals exact bodyPost_ret (v := .tuple #[vv 3 0, .bool true]) (by simp [results, Tryd.results80, go_sem]) rfl ⟨rfl, by repeat (first | (with_reducible refine blw_alloc _ ?_) | (with_reducible refine Below.drew ?_) | (with_reducible exact Below.refl _ _))⟩

theorem tdiv_bound (a b : Int) (h1 : -9007199254740991 ≤ a) (h2 : a ≤ 9007199254740991) : -9007199254740991 ≤ a.tdiv b ∧ a.tdiv b ≤ 9007199254740991 := by
  have h : (a.tdiv b).natAbs ≤ a.natAbs := by rw [Int.natAbs_tdiv]; exact Nat.div_le_self _ _
  omega
theorem wrap_tdiv (a b : Int) (h1 : -9007199254740991 ≤ a) (h2 : a ≤ 9007199254740991) : wrap64 (a.tdiv b) = a.tdiv b := by
  have h := tdiv_bound a b h1 h2
  unfold wrap64; omega

set_option maxHeartbeats 1600000 in
theorem div_p9 (n1 n2 : Int) (h1 : Num 3 n1) (h2 : Num 3 n2) (h1z : zerB 3 n1 = false) (h2z : zerB 3 n2 = false)
    (hz : n2 ≠ 0) (hr : (n1.tmod n2 != 0) = true) (w : World) :
    Calls Tryd.prog 80 #[vv 3 n1, vv 3 n2] w fun e w' => e = .returned (.tuple #[vv 0 0, .bool false]) ∧ Below w.heap.size w w' := by
  go_enter Tryd.func80, Tryd.ntmps80
  go_wp2
  go_region_held3 (fun w' => w'.cell? ⟨w.heap.size, 0, none⟩ = some (.int .i64 3) ∧ w'.cell? ⟨w.heap.size, 1, none⟩ = some (.int .i64 n1) ∧ w'.cell? ⟨w.heap.size, 2, none⟩ = some (.string ⟨#[]⟩) ∧ w'.cell? ⟨w.heap.size + 1, 0, none⟩ = some (.int .i64 3) ∧ w'.cell? ⟨w.heap.size + 1, 1, none⟩ = some (.int .i64 n2) ∧ w'.cell? ⟨w.heap.size + 1, 2, none⟩ = some (.string ⟨#[]⟩)) (go_simp)
    (first | (go_at_call 95; refine (isNegative_any _ _ _).mono ?_; rintro e w' ⟨rfl, rfl⟩))
  all_goals go_wp2_with (first | (go_at_call 66; ((with_reducible refine (isNaN_not _ _ h1 rfl _).mono ?_); rintro e w' ⟨rfl, rfl⟩)) | (go_at_call 66; ((with_reducible refine (isNaN_not _ _ h2 rfl _).mono ?_); rintro e w' ⟨rfl, rfl⟩)) | (go_at_call 91; ((with_reducible refine (isInf_any _ _ _).mono ?_); rintro e w' ⟨rfl, rfl⟩)) | (go_at_call 96; ((with_reducible refine (isZero_any _ _ _).mono ?_); rintro e w' ⟨rfl, rfl⟩)) | (go_at_call 97; ((with_reducible refine (infinity_any _ _).mono ?_); rintro e w' ⟨rfl, rfl⟩)) | (go_at_call 98; ((with_reducible refine (zero_pos _).mono ?_); rintro e w' ⟨rfl, rfl⟩)) | (go_at_call 98; ((with_reducible refine (zero_neg _).mono ?_); rintro e w' ⟨rfl, rfl⟩)) | (go_at_call 92; ((with_reducible refine (nan_any _).mono ?_); rintro e w' ⟨rfl, rfl⟩)) | (go_at_call 100; ((with_reducible refine (integer_any _ _).mono ?_); rintro e w' ⟨rfl, rfl⟩)))
  all_goals exact bodyPost_ret (v := .tuple #[vv 0 0, .bool false]) (by simp [results, Tryd.results80, go_sem]) rfl ⟨rfl, by repeat (first | (with_reducible refine blw_alloc _ ?_) | (with_reducible refine Below.drew ?_) | (with_reducible exact Below.refl _ _))⟩

set_option maxHeartbeats 1600000 in
theorem div_p10 (n1 n2 : Int) (h1 : Num 3 n1) (h2 : Num 3 n2) (h11 : -9007199254740991 ≤ n1) (h12 : n1 ≤ 9007199254740991) (h1z : zerB 3 n1 = false) (h2z : zerB 3 n2 = false)
    (hz : n2 ≠ 0) (hr : (n1.tmod n2 != 0) = false) (w : World) :
    Calls Tryd.prog 80 #[vv 3 n1, vv 3 n2] w fun e w' => e = .returned (.tuple #[vv 3 (n1.tdiv n2), .bool true]) ∧ Below w.heap.size w w' := by
  have hw := wrap_tdiv n1 n2 h11 h12
  go_enter Tryd.func80, Tryd.ntmps80
  go_wp2
  go_region_held3 (fun w' => w'.cell? ⟨w.heap.size, 0, none⟩ = some (.int .i64 3) ∧ w'.cell? ⟨w.heap.size, 1, none⟩ = some (.int .i64 n1) ∧ w'.cell? ⟨w.heap.size, 2, none⟩ = some (.string ⟨#[]⟩) ∧ w'.cell? ⟨w.heap.size + 1, 0, none⟩ = some (.int .i64 3) ∧ w'.cell? ⟨w.heap.size + 1, 1, none⟩ = some (.int .i64 n2) ∧ w'.cell? ⟨w.heap.size + 1, 2, none⟩ = some (.string ⟨#[]⟩)) (go_simp)
    (first | (go_at_call 95; refine (isNegative_any _ _ _).mono ?_; rintro e w' ⟨rfl, rfl⟩))
  all_goals go_wp2_with (first | (go_at_call 66; ((with_reducible refine (isNaN_not _ _ h1 rfl _).mono ?_); rintro e w' ⟨rfl, rfl⟩)) | (go_at_call 66; ((with_reducible refine (isNaN_not _ _ h2 rfl _).mono ?_); rintro e w' ⟨rfl, rfl⟩)) | (go_at_call 91; ((with_reducible refine (isInf_any _ _ _).mono ?_); rintro e w' ⟨rfl, rfl⟩)) | (go_at_call 96; ((with_reducible refine (isZero_any _ _ _).mono ?_); rintro e w' ⟨rfl, rfl⟩)) | (go_at_call 97; ((with_reducible refine (infinity_any _ _).mono ?_); rintro e w' ⟨rfl, rfl⟩)) | (go_at_call 98; ((with_reducible refine (zero_pos _).mono ?_); rintro e w' ⟨rfl, rfl⟩)) | (go_at_call 98; ((with_reducible refine (zero_neg _).mono ?_); rintro e w' ⟨rfl, rfl⟩)) | (go_at_call 92; ((with_reducible refine (nan_any _).mono ?_); rintro e w' ⟨rfl, rfl⟩)) | (go_at_call 100; ((with_reducible refine (integer_any _ _).mono ?_); rintro e w' ⟨rfl, rfl⟩)))
  all_goals exact bodyPost_ret (v := .tuple #[vv 3 (n1.tdiv n2), .bool true]) (by simp [results, Tryd.results80, go_sem]) rfl ⟨rfl, by repeat (first | (with_reducible refine blw_alloc _ ?_) | (with_reducible refine Below.drew ?_) | (with_reducible exact Below.refl _ _))⟩

/-- What num.Div answers: kind, number, and whether it is there. -/
def divR (k1 n1 k2 n2 : Int) : Int × Int × Bool :=
  if k1 = 4 ∨ k2 = 4 ∨ k1 = 5 ∧ k2 = 5 ∨ zerB k1 n1 = true ∧ zerB k2 n2 = true then (4, 0, true)
  else if k1 = 5 ∨ zerB k2 n2 = true then (5, (if negB k1 n1 != negB k2 n2 then -1 else 1), true)
  else if k2 = 5 ∨ zerB k1 n1 = true then ((if negB k1 n1 != negB k2 n2 then 6 else 3), 0, true)
  else if n1.tmod n2 = 0 then (3, n1.tdiv n2, true) else (0, 0, false)

theorem div_any (k1 n1 k2 n2 : Int) (h1 : Num k1 n1) (h2 : Num k2 n2) (w : World) :
    Calls Tryd.prog 80 #[vv k1 n1, vv k2 n2] w fun e w' => e = .returned (vr (divR k1 n1 k2 n2)) ∧ Below w.heap.size w w' := by
  unfold divR
  by_cases a4 : k1 = 4
  · subst a4; rw [num_nan 4 n1 h1 rfl, if_pos (Or.inl rfl)]; exact div_p1 k2 n2 w
  have a4b : (k1 == 4) = false := by simpa using a4
  by_cases b4 : k2 = 4
  · subst b4; rw [num_nan 4 n2 h2 rfl, if_pos (Or.inr (Or.inl rfl))]; exact div_p2 k1 n1 h1 a4b w
  have b4b : (k2 == 4) = false := by simpa using b4
  by_cases a5 : k1 = 5
  · have a5b : (k1 == 5) = true := by simpa using a5
    have hz1 : zerB k1 n1 = false := by subst a5; rfl
    by_cases b5 : k2 = 5
    · rw [if_pos (Or.inr (Or.inr (Or.inl ⟨a5, b5⟩)))]; exact div_p3 k1 n1 k2 n2 h1 h2 a4b b4b a5b (by simpa using b5) w
    · rw [if_neg (by rintro (h | h | ⟨_, h⟩ | ⟨h, _⟩) <;> first | exact a4 h | exact b4 h | exact b5 h | (rw [hz1] at h; cases h)), if_pos (Or.inl a5)]
      exact div_p5 k1 n1 k2 n2 h1 h2 a4b b4b a5b (by simpa using b5) hz1 w
  have a5b : (k1 == 5) = false := by simpa using a5
  rcases hz1 : zerB k1 n1 with _ | _
  · rcases hz2 : zerB k2 n2 with _ | _
    · rw [if_neg (by simp [a4, b4, a5]), if_neg (by simp [a5])]
      by_cases b5 : k2 = 5
      · rw [if_pos (Or.inl b5)]; exact div_p7b k1 n1 k2 n2 h1 h2 a4b b4b a5b hz1 hz2 (by simpa using b5) w
      · obtain ⟨rfl, _, x1, x2⟩ := num_int k1 n1 h1 a4 a5 hz1
        obtain ⟨rfl, y0, _, _⟩ := num_int k2 n2 h2 b4 b5 hz2
        rw [if_neg (by simp)]
        by_cases hc : n1.tmod n2 = 0
        · rw [if_pos hc]; exact div_p10 n1 n2 h1 h2 x1 x2 hz1 hz2 y0 (by simpa using hc) w
        · rw [if_neg hc]; exact div_p9 n1 n2 h1 h2 hz1 hz2 y0 (by simpa using hc) w
    · rw [if_neg (by simp [a4, b4, a5]), if_pos (Or.inr rfl)]
      exact div_p6 k1 n1 k2 n2 h1 h2 a4b b4b a5b hz1 hz2 w
  · rcases hz2 : zerB k2 n2 with _ | _
    · rw [if_neg (by simp [a4, b4, a5]), if_neg (by simp [a5]), if_pos (Or.inr rfl)]
      by_cases b5 : k2 = 5
      · exact div_p7 k1 n1 k2 n2 h1 h2 a4b b4b a5b hz1 hz2 (by simpa using b5) w
      · exact div_p8 k1 n1 k2 n2 h1 h2 a4b b4b a5b hz1 hz2 (by simpa using b5) w
    · rw [if_pos (Or.inr (Or.inr (Or.inr ⟨rfl, rfl⟩)))]; exact div_p4 k1 n1 k2 n2 h1 h2 a4b b4b a5b hz1 hz2 w
end Go.Proofs.YtbkgophgclpijaaDoor.M
