/- The contracts of the reference functions of layer 1: a number is a sign and how great it is. -/
import Derived.Test.YtbkgophgclpijaaDoorMj
import Derived.RegionTactic
import Derived.BigRegion
namespace Go.Proofs.YtbkgophgclpijaaDoor.M
open Go.RowKit

/-- A number of the reference: its kind, whether it has a sign, how great it is. -/
abbrev nv (k : Int) (m : Bool) (s : Int) : Value := .agg #[.int .u8 k, .bool m, .int .i64 s]

theorem prod_ii (m1 m2 : Bool) (w : World) :
    Calls Tryd.prog 83 #[nv 105 m1 0, nv 105 m2 0] w fun e w' => e = .returned (.tuple #[nv 105 (!(m1 == m2)) 0, .bool (true)]) ∧ Below w.heap.size w w' := by
  go_enter Tryd.func83, Tryd.ntmps83
  go_wp2
  all_goals exact bodyPost_ret (v := .tuple #[nv 105 (!(m1 == m2)) 0, .bool (true)]) (by simp [results, Tryd.results83, go_sem]) rfl ⟨rfl, by repeat (first | (with_reducible refine blw_alloc _ ?_) | (with_reducible refine Below.drew ?_) | (with_reducible refine blw_put _ (by omega) ?_) | (with_reducible refine blw_drewN ?_ _) | (with_reducible exact Below.refl _ _))⟩

theorem prod_iz (m1 m2 : Bool) (w : World) :
    Calls Tryd.prog 83 #[nv 105 m1 0, nv 119 m2 0] w fun e w' => e = .returned (.tuple #[nv 110 false 0, .bool (true)]) ∧ Below w.heap.size w w' := by
  go_enter Tryd.func83, Tryd.ntmps83
  go_wp2
  all_goals exact bodyPost_ret (v := .tuple #[nv 110 false 0, .bool (true)]) (by simp [results, Tryd.results83, go_sem]) rfl ⟨rfl, by repeat (first | (with_reducible refine blw_alloc _ ?_) | (with_reducible refine Below.drew ?_) | (with_reducible refine blw_put _ (by omega) ?_) | (with_reducible refine blw_drewN ?_ _) | (with_reducible exact Below.refl _ _))⟩

theorem prod_iw (m1 m2 : Bool) (s2 : Int) (_h : (s2 == 0) = false) (w : World) :
    Calls Tryd.prog 83 #[nv 105 m1 0, nv 119 m2 s2] w fun e w' => e = .returned (.tuple #[nv 105 (!(m1 == m2)) 0, .bool (true)]) ∧ Below w.heap.size w w' := by
  go_enter Tryd.func83, Tryd.ntmps83
  go_wp2
  all_goals exact bodyPost_ret (v := .tuple #[nv 105 (!(m1 == m2)) 0, .bool (true)]) (by simp [results, Tryd.results83, go_sem]) rfl ⟨rfl, by repeat (first | (with_reducible refine blw_alloc _ ?_) | (with_reducible refine Below.drew ?_) | (with_reducible refine blw_put _ (by omega) ?_) | (with_reducible refine blw_drewN ?_ _) | (with_reducible exact Below.refl _ _))⟩

theorem prod_zi (m1 m2 : Bool) (w : World) :
    Calls Tryd.prog 83 #[nv 119 m1 0, nv 105 m2 0] w fun e w' => e = .returned (.tuple #[nv 110 false 0, .bool (true)]) ∧ Below w.heap.size w w' := by
  go_enter Tryd.func83, Tryd.ntmps83
  go_wp2
  all_goals exact bodyPost_ret (v := .tuple #[nv 110 false 0, .bool (true)]) (by simp [results, Tryd.results83, go_sem]) rfl ⟨rfl, by repeat (first | (with_reducible refine blw_alloc _ ?_) | (with_reducible refine Below.drew ?_) | (with_reducible refine blw_put _ (by omega) ?_) | (with_reducible refine blw_drewN ?_ _) | (with_reducible exact Below.refl _ _))⟩

theorem prod_wi (m1 m2 : Bool) (s1 : Int) (_h : (s1 == 0) = false) (w : World) :
    Calls Tryd.prog 83 #[nv 119 m1 s1, nv 105 m2 0] w fun e w' => e = .returned (.tuple #[nv 105 (!(m1 == m2)) 0, .bool (true)]) ∧ Below w.heap.size w w' := by
  go_enter Tryd.func83, Tryd.ntmps83
  go_wp2
  all_goals exact bodyPost_ret (v := .tuple #[nv 105 (!(m1 == m2)) 0, .bool (true)]) (by simp [results, Tryd.results83, go_sem]) rfl ⟨rfl, by repeat (first | (with_reducible refine blw_alloc _ ?_) | (with_reducible refine Below.drew ?_) | (with_reducible refine blw_put _ (by omega) ?_) | (with_reducible refine blw_drewN ?_ _) | (with_reducible exact Below.refl _ _))⟩

theorem prod_zw (m1 m2 : Bool) (s2 : Int) (_h2 : 0 ≤ s2) (_g2 : s2 ≤ 9007199254740991) (w : World) :
    Calls Tryd.prog 83 #[nv 119 m1 0, nv 119 m2 s2] w fun e w' => e = .returned (.tuple #[nv 119 (!(m1 == m2)) 0, .bool (true)]) ∧ Below w.heap.size w w' := by
  go_enter Tryd.func83, Tryd.ntmps83
  go_wp2
  go_quiet (fail)
  go_wp2
  all_goals exact bodyPost_ret (v := .tuple #[nv 119 (!(m1 == m2)) 0, .bool (true)]) (by simp [results, Tryd.results83, go_sem]) rfl ⟨rfl, by repeat (first | (with_reducible refine blw_alloc _ ?_) | (with_reducible refine Below.drew ?_) | (with_reducible refine blw_put _ (by omega) ?_) | (with_reducible refine blw_drewN ?_ _) | (with_reducible exact Below.refl _ _))⟩

theorem prod_no (m1 m2 : Bool) (s1 : Int) (_h1 : 0 ≤ s1) (_g1 : s1 ≤ 9007199254740991) (s2 : Int) (_h2 : 0 ≤ s2) (_g2 : s2 ≤ 9007199254740991) (_hz : s1 ≠ 0) (_hzb : (s1 != 0) = true) (_hp : 0 < s1) (_hc : 9007199254740991 / s1 < s2) (w : World) :
    Calls Tryd.prog 83 #[nv 119 m1 s1, nv 119 m2 s2] w fun e w' => e = .returned (.tuple #[nv 0 false 0, .bool (false)]) ∧ Below w.heap.size w w' := by
  have hw := IntWalk.i64_quo 9007199254740991 s1 ⟨by omega, by omega, by omega⟩
  go_enter Tryd.func83, Tryd.ntmps83
  go_wp2
  go_quiet (fail)
  go_wp2
  all_goals exact bodyPost_ret (v := .tuple #[nv 0 false 0, .bool (false)]) (by simp [results, Tryd.results83, go_sem]) rfl ⟨rfl, by repeat (first | (with_reducible refine blw_alloc _ ?_) | (with_reducible refine Below.drew ?_) | (with_reducible refine blw_put _ (by omega) ?_) | (with_reducible refine blw_drewN ?_ _) | (with_reducible exact Below.refl _ _))⟩

theorem prod_ww (m1 m2 : Bool) (s1 : Int) (_h1 : 0 ≤ s1) (_g1 : s1 ≤ 9007199254740991) (s2 : Int) (_h2 : 0 ≤ s2) (_g2 : s2 ≤ 9007199254740991) (_hz : s1 ≠ 0) (_hzb : (s1 != 0) = true) (_hp : 0 < s1) (_hc : s2 ≤ 9007199254740991 / s1) (_hb : s1 * s2 ≤ 9007199254740991) (_hb0 : 0 ≤ s1 * s2) (w : World) :
    Calls Tryd.prog 83 #[nv 119 m1 s1, nv 119 m2 s2] w fun e w' => e = .returned (.tuple #[nv 119 (!(m1 == m2)) (s1 * s2), .bool (true)]) ∧ Below w.heap.size w w' := by
  have hw := IntWalk.i64_quo 9007199254740991 s1 ⟨by omega, by omega, by omega⟩
  go_enter Tryd.func83, Tryd.ntmps83
  go_wp2
  go_quiet (fail)
  go_wp2
  all_goals exact bodyPost_ret (v := .tuple #[nv 119 (!(m1 == m2)) (s1 * s2), .bool (true)]) (by simp [results, Tryd.results83, go_sem]) rfl ⟨rfl, by repeat (first | (with_reducible refine blw_alloc _ ?_) | (with_reducible refine Below.drew ?_) | (with_reducible refine blw_put _ (by omega) ?_) | (with_reducible refine blw_drewN ?_ _) | (with_reducible exact Below.refl _ _))⟩

theorem sum_ii_tt  (w : World) :
    Calls Tryd.prog 82 #[nv 105 true 0, nv 105 true 0] w fun e w' => e = .returned (.tuple #[nv 105 true 0, .bool (true)]) ∧ Below w.heap.size w w' := by
  go_enter Tryd.func82, Tryd.ntmps82
  go_wp2
  all_goals exact bodyPost_ret (v := .tuple #[nv 105 true 0, .bool (true)]) (by simp [results, Tryd.results82, go_sem]) rfl ⟨rfl, by repeat (first | (with_reducible refine blw_alloc _ ?_) | (with_reducible refine Below.drew ?_) | (with_reducible refine blw_drewN ?_ _) | (with_reducible exact Below.refl _ _))⟩

theorem sum_ww_tt (s1 : Int) (_h1 : 0 ≤ s1) (_g1 : s1 ≤ 9007199254740991) (s2 : Int) (_h2 : 0 ≤ s2) (_g2 : s2 ≤ 9007199254740991) (w : World) :
    Calls Tryd.prog 82 #[nv 119 true s1, nv 119 true s2] w fun e w' => e = .returned (.tuple #[nv 119 true (s1 + s2), .bool (decide (s1 + s2 ≤ 9007199254740991))]) ∧ Below w.heap.size w w' := by
  go_enter Tryd.func82, Tryd.ntmps82
  go_wp2
  go_region
  all_goals go_wp2
  all_goals exact bodyPost_ret (v := .tuple #[nv 119 true (s1 + s2), .bool (decide (s1 + s2 ≤ 9007199254740991))]) (by simp [results, Tryd.results82, go_sem]) rfl ⟨rfl, by repeat (first | (with_reducible refine blw_alloc _ ?_) | (with_reducible refine Below.drew ?_) | (with_reducible refine blw_drewN ?_ _) | (with_reducible exact Below.refl _ _))⟩

theorem sum_ii_tf  (w : World) :
    Calls Tryd.prog 82 #[nv 105 true 0, nv 105 false 0] w fun e w' => e = .returned (.tuple #[nv 110 false 0, .bool (true)]) ∧ Below w.heap.size w w' := by
  go_enter Tryd.func82, Tryd.ntmps82
  go_wp2
  all_goals exact bodyPost_ret (v := .tuple #[nv 110 false 0, .bool (true)]) (by simp [results, Tryd.results82, go_sem]) rfl ⟨rfl, by repeat (first | (with_reducible refine blw_alloc _ ?_) | (with_reducible refine Below.drew ?_) | (with_reducible refine blw_drewN ?_ _) | (with_reducible exact Below.refl _ _))⟩

theorem sum_lt_tf (s1 : Int) (_h1 : 0 ≤ s1) (_g1 : s1 ≤ 9007199254740991) (s2 : Int) (_h2 : 0 ≤ s2) (_g2 : s2 ≤ 9007199254740991) (_h : s1 < s2) (_hz : (s2 - s1 == 0) = false) (w : World) :
    Calls Tryd.prog 82 #[nv 119 true s1, nv 119 false s2] w fun e w' => e = .returned (.tuple #[nv 119 false (s2 - s1), .bool (true)]) ∧ Below w.heap.size w w' := by
  go_enter Tryd.func82, Tryd.ntmps82
  go_wp2
  all_goals exact bodyPost_ret (v := .tuple #[nv 119 false (s2 - s1), .bool (true)]) (by simp [results, Tryd.results82, go_sem]) rfl ⟨rfl, by repeat (first | (with_reducible refine blw_alloc _ ?_) | (with_reducible refine Below.drew ?_) | (with_reducible refine blw_drewN ?_ _) | (with_reducible exact Below.refl _ _))⟩

theorem sum_gt_tf (s1 : Int) (_h1 : 0 ≤ s1) (_g1 : s1 ≤ 9007199254740991) (s2 : Int) (_h2 : 0 ≤ s2) (_g2 : s2 ≤ 9007199254740991) (_h : s2 < s1) (_hz : (s1 - s2 == 0) = false) (w : World) :
    Calls Tryd.prog 82 #[nv 119 true s1, nv 119 false s2] w fun e w' => e = .returned (.tuple #[nv 119 true (s1 - s2), .bool (true)]) ∧ Below w.heap.size w w' := by
  go_enter Tryd.func82, Tryd.ntmps82
  go_wp2
  all_goals exact bodyPost_ret (v := .tuple #[nv 119 true (s1 - s2), .bool (true)]) (by simp [results, Tryd.results82, go_sem]) rfl ⟨rfl, by repeat (first | (with_reducible refine blw_alloc _ ?_) | (with_reducible refine Below.drew ?_) | (with_reducible refine blw_drewN ?_ _) | (with_reducible exact Below.refl _ _))⟩

theorem sum_eq_tf (s1 : Int) (_h1 : 0 ≤ s1) (_g1 : s1 ≤ 9007199254740991) (w : World) :
    Calls Tryd.prog 82 #[nv 119 true s1, nv 119 false s1] w fun e w' => e = .returned (.tuple #[nv 119 false 0, .bool (true)]) ∧ Below w.heap.size w w' := by
  go_enter Tryd.func82, Tryd.ntmps82
  go_wp2
  all_goals exact bodyPost_ret (v := .tuple #[nv 119 false 0, .bool (true)]) (by simp [results, Tryd.results82, go_sem]) rfl ⟨rfl, by repeat (first | (with_reducible refine blw_alloc _ ?_) | (with_reducible refine Below.drew ?_) | (with_reducible refine blw_drewN ?_ _) | (with_reducible exact Below.refl _ _))⟩

theorem sum_ii_ft  (w : World) :
    Calls Tryd.prog 82 #[nv 105 false 0, nv 105 true 0] w fun e w' => e = .returned (.tuple #[nv 110 false 0, .bool (true)]) ∧ Below w.heap.size w w' := by
  go_enter Tryd.func82, Tryd.ntmps82
  go_wp2
  all_goals exact bodyPost_ret (v := .tuple #[nv 110 false 0, .bool (true)]) (by simp [results, Tryd.results82, go_sem]) rfl ⟨rfl, by repeat (first | (with_reducible refine blw_alloc _ ?_) | (with_reducible refine Below.drew ?_) | (with_reducible refine blw_drewN ?_ _) | (with_reducible exact Below.refl _ _))⟩

theorem sum_lt_ft (s1 : Int) (_h1 : 0 ≤ s1) (_g1 : s1 ≤ 9007199254740991) (s2 : Int) (_h2 : 0 ≤ s2) (_g2 : s2 ≤ 9007199254740991) (_h : s1 < s2) (_hz : (s2 - s1 == 0) = false) (w : World) :
    Calls Tryd.prog 82 #[nv 119 false s1, nv 119 true s2] w fun e w' => e = .returned (.tuple #[nv 119 true (s2 - s1), .bool (true)]) ∧ Below w.heap.size w w' := by
  go_enter Tryd.func82, Tryd.ntmps82
  go_wp2
  all_goals exact bodyPost_ret (v := .tuple #[nv 119 true (s2 - s1), .bool (true)]) (by simp [results, Tryd.results82, go_sem]) rfl ⟨rfl, by repeat (first | (with_reducible refine blw_alloc _ ?_) | (with_reducible refine Below.drew ?_) | (with_reducible refine blw_drewN ?_ _) | (with_reducible exact Below.refl _ _))⟩

theorem sum_gt_ft (s1 : Int) (_h1 : 0 ≤ s1) (_g1 : s1 ≤ 9007199254740991) (s2 : Int) (_h2 : 0 ≤ s2) (_g2 : s2 ≤ 9007199254740991) (_h : s2 < s1) (_hz : (s1 - s2 == 0) = false) (w : World) :
    Calls Tryd.prog 82 #[nv 119 false s1, nv 119 true s2] w fun e w' => e = .returned (.tuple #[nv 119 false (s1 - s2), .bool (true)]) ∧ Below w.heap.size w w' := by
  go_enter Tryd.func82, Tryd.ntmps82
  go_wp2
  all_goals exact bodyPost_ret (v := .tuple #[nv 119 false (s1 - s2), .bool (true)]) (by simp [results, Tryd.results82, go_sem]) rfl ⟨rfl, by repeat (first | (with_reducible refine blw_alloc _ ?_) | (with_reducible refine Below.drew ?_) | (with_reducible refine blw_drewN ?_ _) | (with_reducible exact Below.refl _ _))⟩

theorem sum_eq_ft (s1 : Int) (_h1 : 0 ≤ s1) (_g1 : s1 ≤ 9007199254740991) (w : World) :
    Calls Tryd.prog 82 #[nv 119 false s1, nv 119 true s1] w fun e w' => e = .returned (.tuple #[nv 119 false 0, .bool (true)]) ∧ Below w.heap.size w w' := by
  go_enter Tryd.func82, Tryd.ntmps82
  go_wp2
  all_goals exact bodyPost_ret (v := .tuple #[nv 119 false 0, .bool (true)]) (by simp [results, Tryd.results82, go_sem]) rfl ⟨rfl, by repeat (first | (with_reducible refine blw_alloc _ ?_) | (with_reducible refine Below.drew ?_) | (with_reducible refine blw_drewN ?_ _) | (with_reducible exact Below.refl _ _))⟩

theorem sum_ii_ff  (w : World) :
    Calls Tryd.prog 82 #[nv 105 false 0, nv 105 false 0] w fun e w' => e = .returned (.tuple #[nv 105 false 0, .bool (true)]) ∧ Below w.heap.size w w' := by
  go_enter Tryd.func82, Tryd.ntmps82
  go_wp2
  all_goals exact bodyPost_ret (v := .tuple #[nv 105 false 0, .bool (true)]) (by simp [results, Tryd.results82, go_sem]) rfl ⟨rfl, by repeat (first | (with_reducible refine blw_alloc _ ?_) | (with_reducible refine Below.drew ?_) | (with_reducible refine blw_drewN ?_ _) | (with_reducible exact Below.refl _ _))⟩

theorem sum_ww_ff (s1 : Int) (_h1 : 0 ≤ s1) (_g1 : s1 ≤ 9007199254740991) (s2 : Int) (_h2 : 0 ≤ s2) (_g2 : s2 ≤ 9007199254740991) (w : World) :
    Calls Tryd.prog 82 #[nv 119 false s1, nv 119 false s2] w fun e w' => e = .returned (.tuple #[nv 119 false (s1 + s2), .bool (decide (s1 + s2 ≤ 9007199254740991))]) ∧ Below w.heap.size w w' := by
  go_enter Tryd.func82, Tryd.ntmps82
  go_wp2
  go_region
  all_goals go_wp2
  all_goals exact bodyPost_ret (v := .tuple #[nv 119 false (s1 + s2), .bool (decide (s1 + s2 ≤ 9007199254740991))]) (by simp [results, Tryd.results82, go_sem]) rfl ⟨rfl, by repeat (first | (with_reducible refine blw_alloc _ ?_) | (with_reducible refine Below.drew ?_) | (with_reducible refine blw_drewN ?_ _) | (with_reducible exact Below.refl _ _))⟩

theorem sum_iw (m1 m2 : Bool) (s2 : Int) (w : World) :
    Calls Tryd.prog 82 #[nv 105 m1 0, nv 119 m2 s2] w fun e w' => e = .returned (.tuple #[nv 105 m1 0, .bool (true)]) ∧ Below w.heap.size w w' := by
  go_enter Tryd.func82, Tryd.ntmps82
  go_wp2
  all_goals exact bodyPost_ret (v := .tuple #[nv 105 m1 0, .bool (true)]) (by simp [results, Tryd.results82, go_sem]) rfl ⟨rfl, by repeat (first | (with_reducible refine blw_alloc _ ?_) | (with_reducible refine Below.drew ?_) | (with_reducible refine blw_drewN ?_ _) | (with_reducible exact Below.refl _ _))⟩

theorem sum_wi (m1 m2 : Bool) (s1 : Int) (w : World) :
    Calls Tryd.prog 82 #[nv 119 m1 s1, nv 105 m2 0] w fun e w' => e = .returned (.tuple #[nv 105 m2 0, .bool (true)]) ∧ Below w.heap.size w w' := by
  go_enter Tryd.func82, Tryd.ntmps82
  go_wp2
  all_goals exact bodyPost_ret (v := .tuple #[nv 105 m2 0, .bool (true)]) (by simp [results, Tryd.results82, go_sem]) rfl ⟨rfl, by repeat (first | (with_reducible refine blw_alloc _ ?_) | (with_reducible refine Below.drew ?_) | (with_reducible refine blw_drewN ?_ _) | (with_reducible exact Below.refl _ _))⟩

theorem quo_ii (m1 m2 : Bool) (w : World) :
    Calls Tryd.prog 84 #[nv 105 m1 0, nv 105 m2 0] w fun e w' => e = .returned (.tuple #[nv 110 false 0, .bool (true)]) ∧ Below w.heap.size w w' := by
  go_enter Tryd.func84, Tryd.ntmps84
  go_wp2
  all_goals exact bodyPost_ret (v := .tuple #[nv 110 false 0, .bool (true)]) (by simp [results, Tryd.results84, go_sem]) rfl ⟨rfl, by repeat (first | (with_reducible refine blw_alloc _ ?_) | (with_reducible refine Below.drew ?_) | (with_reducible refine blw_drewN ?_ _) | (with_reducible exact Below.refl _ _))⟩

theorem quo_zz (m1 m2 : Bool) (w : World) :
    Calls Tryd.prog 84 #[nv 119 m1 0, nv 119 m2 0] w fun e w' => e = .returned (.tuple #[nv 110 false 0, .bool (true)]) ∧ Below w.heap.size w w' := by
  go_enter Tryd.func84, Tryd.ntmps84
  go_wp2
  all_goals exact bodyPost_ret (v := .tuple #[nv 110 false 0, .bool (true)]) (by simp [results, Tryd.results84, go_sem]) rfl ⟨rfl, by repeat (first | (with_reducible refine blw_alloc _ ?_) | (with_reducible refine Below.drew ?_) | (with_reducible refine blw_drewN ?_ _) | (with_reducible exact Below.refl _ _))⟩

theorem quo_iz (m1 m2 : Bool) (w : World) :
    Calls Tryd.prog 84 #[nv 105 m1 0, nv 119 m2 0] w fun e w' => e = .returned (.tuple #[nv 105 (!(m1 == m2)) 0, .bool (true)]) ∧ Below w.heap.size w w' := by
  go_enter Tryd.func84, Tryd.ntmps84
  go_wp2
  all_goals exact bodyPost_ret (v := .tuple #[nv 105 (!(m1 == m2)) 0, .bool (true)]) (by simp [results, Tryd.results84, go_sem]) rfl ⟨rfl, by repeat (first | (with_reducible refine blw_alloc _ ?_) | (with_reducible refine Below.drew ?_) | (with_reducible refine blw_drewN ?_ _) | (with_reducible exact Below.refl _ _))⟩

theorem quo_iw (m1 m2 : Bool) (s2 : Int) (_h : (s2 == 0) = false) (w : World) :
    Calls Tryd.prog 84 #[nv 105 m1 0, nv 119 m2 s2] w fun e w' => e = .returned (.tuple #[nv 105 (!(m1 == m2)) 0, .bool (true)]) ∧ Below w.heap.size w w' := by
  go_enter Tryd.func84, Tryd.ntmps84
  go_wp2
  all_goals exact bodyPost_ret (v := .tuple #[nv 105 (!(m1 == m2)) 0, .bool (true)]) (by simp [results, Tryd.results84, go_sem]) rfl ⟨rfl, by repeat (first | (with_reducible refine blw_alloc _ ?_) | (with_reducible refine Below.drew ?_) | (with_reducible refine blw_drewN ?_ _) | (with_reducible exact Below.refl _ _))⟩

theorem quo_wz (m1 m2 : Bool) (s1 : Int) (_h : (s1 == 0) = false) (w : World) :
    Calls Tryd.prog 84 #[nv 119 m1 s1, nv 119 m2 0] w fun e w' => e = .returned (.tuple #[nv 105 (!(m1 == m2)) 0, .bool (true)]) ∧ Below w.heap.size w w' := by
  go_enter Tryd.func84, Tryd.ntmps84
  go_wp2
  all_goals exact bodyPost_ret (v := .tuple #[nv 105 (!(m1 == m2)) 0, .bool (true)]) (by simp [results, Tryd.results84, go_sem]) rfl ⟨rfl, by repeat (first | (with_reducible refine blw_alloc _ ?_) | (with_reducible refine Below.drew ?_) | (with_reducible refine blw_drewN ?_ _) | (with_reducible exact Below.refl _ _))⟩

theorem quo_wi (m1 m2 : Bool) (s1 : Int) (w : World) :
    Calls Tryd.prog 84 #[nv 119 m1 s1, nv 105 m2 0] w fun e w' => e = .returned (.tuple #[nv 119 (!(m1 == m2)) 0, .bool (true)]) ∧ Below w.heap.size w w' := by
  go_enter Tryd.func84, Tryd.ntmps84
  go_wp2
  all_goals exact bodyPost_ret (v := .tuple #[nv 119 (!(m1 == m2)) 0, .bool (true)]) (by simp [results, Tryd.results84, go_sem]) rfl ⟨rfl, by repeat (first | (with_reducible refine blw_alloc _ ?_) | (with_reducible refine Below.drew ?_) | (with_reducible refine blw_drewN ?_ _) | (with_reducible exact Below.refl _ _))⟩

theorem quo_ww (m1 m2 : Bool) (s1 : Int) (_h1 : 0 ≤ s1) (_g1 : s1 ≤ 9007199254740991) (s2 : Int) (_h2 : 0 ≤ s2) (_g2 : s2 ≤ 9007199254740991) (_hz : s2 ≠ 0) (_hzb : (s2 == 0) = false) (_hp : 0 < s2) (_hb : s1 / s2 * s2 ≤ 9007199254740991) (_hb0 : 0 ≤ s1 / s2 * s2) (_hq : 0 ≤ s1 / s2) (_hq2 : s1 / s2 ≤ 9007199254740991) (w : World) :
    Calls Tryd.prog 84 #[nv 119 m1 s1, nv 119 m2 s2] w fun e w' => e = .returned (.tuple #[nv 119 (!(m1 == m2)) (s1 / s2), .bool (s1 / s2 * s2 == s1)]) ∧ Below w.heap.size w w' := by
  have hw := IntWalk.i64_quo s1 s2 ⟨by omega, by omega, by omega⟩
  go_enter Tryd.func84, Tryd.ntmps84
  go_wp2
  go_region
  all_goals go_wp2
  all_goals exact bodyPost_ret (v := .tuple #[nv 119 (!(m1 == m2)) (s1 / s2), .bool (s1 / s2 * s2 == s1)]) (by simp [results, Tryd.results84, go_sem]) rfl ⟨rfl, by repeat (first | (with_reducible refine blw_alloc _ ?_) | (with_reducible refine Below.drew ?_) | (with_reducible refine blw_drewN ?_ _) | (with_reducible exact Below.refl _ _))⟩

end Go.Proofs.YtbkgophgclpijaaDoor.M
