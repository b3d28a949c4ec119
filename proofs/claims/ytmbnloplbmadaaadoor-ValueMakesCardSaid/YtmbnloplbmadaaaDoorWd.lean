/- Contracts of package value at the values that its laws' example takes. -/
import Derived.Test.YtmbnloplbmadaaaDoorWc
namespace Go.Proofs.YtmbnloplbmadaaaDoor
open Go.RowKit

theorem symbol_any (r : Int) (w : World) : Calls Tryd.prog 28 #[.int .i64 r] w fun e w' => e = .returned (V 8 r e0) ∧ w.alloc (bxs 8 r e0) = w' := by
  go_enter Tryd.func28, Tryd.ntmps28
  go_wp2
  exact bodyPost_ret (v := V 8 r e0) (by simp [results, Tryd.results28, go_sem]) rfl ⟨rfl, rfl⟩
theorem ref_cell (k r : Int) (hk : k = 9 ∨ k = 8) (w : World) : Calls Tryd.prog 30 #[V k r e0] w fun e w' => e = .returned (.int .i64 r) ∧ w.alloc (bxs k r e0) = w' := by
  rcases hk with rfl | rfl
  all_goals
    go_enter Tryd.func30, Tryd.ntmps30
    go_wp2
    go_ret
    exact ⟨rfl, rfl⟩
theorem ref_bool (r : Int) (w : World) : Calls Tryd.prog 30 #[V 2 r e0] w fun e w' => e = .returned (.int .i64 0) ∧ w.alloc (bxs 2 r e0) = w' := by
  go_enter Tryd.func30, Tryd.ntmps30
  go_wp2
  go_ret
  exact ⟨rfl, rfl⟩
theorem isObj_any (k r : Int) (w : World) : Calls Tryd.prog 31 #[V k r e0] w fun e w' => e = .returned (.bool (k == 9)) ∧ w.alloc (bxs k r e0) = w' := by
  go_enter Tryd.func31, Tryd.ntmps31
  go_wp2
  go_ret
  exact ⟨rfl, rfl⟩
theorem nullish_yes (k : Int) (hk : k = 0 ∨ k = 1) (w : World) : Calls Tryd.prog 32 #[V k 0 e0] w fun e w' => e = .returned (.bool true) ∧ w.alloc (bxs k 0 e0) = w' := by
  rcases hk with rfl | rfl
  all_goals
    go_enter Tryd.func32, Tryd.ntmps32
    go_wp2
    go_ret
    exact ⟨rfl, rfl⟩
theorem nullish_no (k r : Int) (hk : k = 9 ∨ k = 2) (w : World) : Calls Tryd.prog 32 #[V k r e0] w fun e w' => e = .returned (.bool false) ∧ w.alloc (bxs k r e0) = w' := by
  rcases hk with rfl | rfl
  all_goals
    go_enter Tryd.func32, Tryd.ntmps32
    go_wp2
    go_ret
    exact ⟨rfl, rfl⟩
theorem true_cell (k r : Int) (hk : k = 9 ∨ k = 8) (w : World) : Calls Tryd.prog 25 #[V k r e0] w fun e w' => e = .returned (.bool true) ∧ w.alloc (bxs k r e0) = w' := by
  rcases hk with rfl | rfl
  all_goals
    go_enter Tryd.func25, Tryd.ntmps25
    go_wp2
    go_ret
    exact ⟨rfl, rfl⟩
theorem true_bool (b : Bool) (w : World) : Calls Tryd.prog 25 #[V 2 (if b then 1 else 0) e0] w fun e w' => e = .returned (.bool b) ∧ w.alloc (bxs 2 (if b then 1 else 0) e0) = w' := by
  cases b
  all_goals
    simp only [Bool.false_eq_true, ↓reduceIte]
    go_enter Tryd.func25, Tryd.ntmps25
    go_wp2
    go_ret
    exact ⟨rfl, rfl⟩
theorem number_undef (w : World) : Calls Tryd.prog 20 #[V 0 0 e0] w fun e w' => e = .returned (.tuple #[V 4 0 e0, .int .i64 0]) ∧ Below w.heap.size w w' := by
  go_enter Tryd.func20, Tryd.ntmps20
  go_wp2_with (first | (go_at_call 46; ((with_reducible refine (is_undef _).mono ?_); rintro e w' ⟨rfl, rfl⟩)))
  refine bodyPost_ret (v := .tuple #[V 4 0 e0, .int .i64 0]) (by simp [results, Tryd.results20, go_sem]) rfl ⟨rfl, ?_⟩
  repeat (first | (with_reducible exact Below.refl _ _) | (refine Below.setCell ?_ (by simp; done) _) | (refine Below.alloc ?_ (by first | (exact Nat.le_refl _) | (simp; done) | (simp; omega)) _))
theorem number_one (w : World) : Calls Tryd.prog 20 #[V 3 1 e0] w fun e w' => e = .returned (.tuple #[V 3 1 e0, .int .i64 0]) ∧ Below w.heap.size w w' := by
  go_enter Tryd.func20, Tryd.ntmps20
  go_wp2_with (first | (go_at_call 46; ((with_reducible refine (is_one _).mono ?_); rintro e w' ⟨rfl, rfl⟩)))
  refine bodyPost_ret (v := .tuple #[V 3 1 e0, .int .i64 0]) (by simp [results, Tryd.results20, go_sem]) rfl ⟨rfl, ?_⟩
  repeat (first | (with_reducible exact Below.refl _ _) | (refine Below.setCell ?_ (by simp; done) _) | (refine Below.alloc ?_ (by first | (exact Nat.le_refl _) | (simp; done) | (simp; omega)) _))
theorem less_a (w : World) : Calls Tryd.prog 69 #[V 4 0 e0, V 3 1 e0] w fun e w' => e = .returned (.tuple #[.bool false, .bool false]) ∧ ((w.alloc (bxs 4 0 e0)).alloc (bxs 3 1 e0)).alloc (bxs 4 0 e0) = w' := by
  go_enter Tryd.func69, Tryd.ntmps69
  go_wp2_with (first | (go_at_call 62; ((with_reducible refine (isNaN_nan _).mono ?_); rintro e w' ⟨rfl, rfl⟩)))
  go_ret2
  exact ⟨rfl, rfl⟩
theorem less_b (w : World) : Calls Tryd.prog 69 #[V 3 1 e0, V 4 0 e0] w fun e w' => e = .returned (.tuple #[.bool false, .bool false]) ∧ ((((w.alloc (bxs 3 1 e0)).alloc (bxs 4 0 e0)).alloc (bxs 3 1 e0)).alloc (bxs 3 1 e0)).alloc (bxs 4 0 e0) = w' := by
  go_enter Tryd.func69, Tryd.ntmps69
  go_wp2_with (first | (go_at_call 62; first | ((with_reducible refine (isNaN_nan _).mono ?_); rintro e w' ⟨rfl, rfl⟩) | ((with_reducible refine (isNaN_one _).mono ?_); rintro e w' ⟨rfl, rfl⟩)))
  go_ret2
  exact ⟨rfl, rfl⟩
theorem isOrder_lt (w : World) : Calls Tryd.prog 36 #[.string ⟨#[60]⟩] w fun e w' => e = .returned (.bool true) ∧ w = w' := by
  go_enter Tryd.func36, Tryd.ntmps36
  go_wp2
  go_ret
  exact ⟨rfl, rfl⟩
theorem compare_fit (w : World) : Calls Tryd.prog 56 #[.string ⟨#[60]⟩, V 4 0 e0, V 3 1 e0] w fun e w' => e = .returned (.bool false) ∧ Below w.heap.size w w' := by
  go_enter Tryd.func56, Tryd.ntmps56
  go_wp2_with (first | (go_at_call 69; first | ((with_reducible refine (less_a _).mono ?_); rintro e w' ⟨rfl, rfl⟩) | ((with_reducible refine (less_b _).mono ?_); rintro e w' ⟨rfl, rfl⟩)))
  go_ret
  exact ⟨rfl, by repeat (first | (with_reducible exact Below.refl _ _) | (refine Below.alloc ?_ (by first | (exact Nat.le_refl _) | (simp; done) | (simp; omega)) _))⟩
end Go.Proofs.YtmbnloplbmadaaaDoor
