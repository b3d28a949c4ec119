/- Contracts of package value at the values that its laws' example takes. -/
import Derived.Test.YtbkgophgclpijaaDoorWc
namespace Go.Proofs.YtbkgophgclpijaaDoor.W
open Go.RowKit

theorem true_cell (k r : Int) (hk : k = 9 ∨ k = 8) (w : World) : Calls Tryd.prog 26 #[V k r e0] w fun e w' => e = .returned (.bool true) ∧ w.alloc (bxs k r e0) = w' := by
  rcases hk with rfl | rfl
  all_goals
    go_enter Tryd.func26, Tryd.ntmps26
    go_wp2
    go_ret
    exact ⟨rfl, rfl⟩
theorem true_bool (b : Bool) (w : World) : Calls Tryd.prog 26 #[V 2 (if b then 1 else 0) e0] w fun e w' => e = .returned (.bool b) ∧ w.alloc (bxs 2 (if b then 1 else 0) e0) = w' := by
  cases b
  all_goals
    simp only [Bool.false_eq_true, ↓reduceIte]
    go_enter Tryd.func26, Tryd.ntmps26
    go_wp2
    go_ret
    exact ⟨rfl, rfl⟩
theorem number_undef (w : World) : Calls Tryd.prog 21 #[V 0 0 e0] w fun e w' => e = .returned (.tuple #[V 4 0 e0, .int .i64 0]) ∧ Below w.heap.size w w' := by
  go_enter Tryd.func21, Tryd.ntmps21
  go_wp2_with (first | (go_at_call 46; ((with_reducible refine (is_undef _).mono ?_); rintro e w' ⟨rfl, rfl⟩)))
  refine bodyPost_ret (v := .tuple #[V 4 0 e0, .int .i64 0]) (by simp [results, Tryd.results21, go_sem]) rfl ⟨rfl, ?_⟩
  repeat (first | (with_reducible exact Below.refl _ _) | (refine Below.setCell ?_ (by simp; done) _) | (refine Below.alloc ?_ (by first | (exact Nat.le_refl _) | (simp; done) | (simp; omega)) _))
theorem number_one (w : World) : Calls Tryd.prog 21 #[V 3 1 e0] w fun e w' => e = .returned (.tuple #[V 3 1 e0, .int .i64 0]) ∧ Below w.heap.size w w' := by
  go_enter Tryd.func21, Tryd.ntmps21
  go_wp2_with (first | (go_at_call 46; ((with_reducible refine (is_one _).mono ?_); rintro e w' ⟨rfl, rfl⟩)))
  refine bodyPost_ret (v := .tuple #[V 3 1 e0, .int .i64 0]) (by simp [results, Tryd.results21, go_sem]) rfl ⟨rfl, ?_⟩
  repeat (first | (with_reducible exact Below.refl _ _) | (refine Below.setCell ?_ (by simp; done) _) | (refine Below.alloc ?_ (by first | (exact Nat.le_refl _) | (simp; done) | (simp; omega)) _))
theorem less_a (w : World) : Calls Tryd.prog 76 #[V 4 0 e0, V 3 1 e0] w fun e w' => e = .returned (.tuple #[.bool false, .bool false]) ∧ ((w.alloc (bxs 4 0 e0)).alloc (bxs 3 1 e0)).alloc (bxs 4 0 e0) = w' := by
  go_enter Tryd.func76, Tryd.ntmps76
  go_wp2_with (first | (go_at_call 66; ((with_reducible refine (isNaN_nan _).mono ?_); rintro e w' ⟨rfl, rfl⟩)))
  go_ret2
  exact ⟨rfl, rfl⟩
theorem less_b (w : World) : Calls Tryd.prog 76 #[V 3 1 e0, V 4 0 e0] w fun e w' => e = .returned (.tuple #[.bool false, .bool false]) ∧ ((((w.alloc (bxs 3 1 e0)).alloc (bxs 4 0 e0)).alloc (bxs 3 1 e0)).alloc (bxs 3 1 e0)).alloc (bxs 4 0 e0) = w' := by
  go_enter Tryd.func76, Tryd.ntmps76
  go_wp2_with (first | (go_at_call 66; first | ((with_reducible refine (isNaN_nan _).mono ?_); rintro e w' ⟨rfl, rfl⟩) | ((with_reducible refine (isNaN_one _).mono ?_); rintro e w' ⟨rfl, rfl⟩)))
  go_ret2
  exact ⟨rfl, rfl⟩
theorem isOrder_lt (w : World) : Calls Tryd.prog 36 #[.string ⟨#[60]⟩] w fun e w' => e = .returned (.bool true) ∧ w = w' := by
  go_enter Tryd.func36, Tryd.ntmps36
  go_wp2
  go_ret
  exact ⟨rfl, rfl⟩
theorem compare_fit (w : World) : Calls Tryd.prog 60 #[.string ⟨#[60]⟩, V 4 0 e0, V 3 1 e0] w fun e w' => e = .returned (.bool false) ∧ Below w.heap.size w w' := by
  go_enter Tryd.func60, Tryd.ntmps60
  go_wp2_with (first | (go_at_call 76; first | ((with_reducible refine (less_a _).mono ?_); rintro e w' ⟨rfl, rfl⟩) | ((with_reducible refine (less_b _).mono ?_); rintro e w' ⟨rfl, rfl⟩)))
  go_ret
  exact ⟨rfl, by repeat (first | (with_reducible exact Below.refl _ _) | (refine Below.alloc ?_ (by first | (exact Nat.le_refl _) | (simp; done) | (simp; omega)) _))⟩
end Go.Proofs.YtbkgophgclpijaaDoor.W
