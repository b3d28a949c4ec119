/- NumInts holds: for every input n it returns true, whatever the memory holds; no condition beyond the row's own (the listed tables lie as the program's text lays them). -/
import Derived.Test.YtgeaecljfmbleaaDoorNe
import Derived.Test.YtgeaecljfmbleaaDoorNy
import Derived.Test.YtgeaecljfmbleaaDoorTie
import Derived.Test.YtgeaecljfmbleaaDoorCards
import Derived.SevenTiedAt
import Derived.LoopN
namespace Go.Proofs.YtgeaecljfmbleaaDoor
open Go.ChangeShapes Go.WideShapes Go.ChangeAt Go.WideMaps Go.WideElems Go.RowKit

theorem is_no (k : Int) (hk : k = 7 ∨ k = 0) (w : World) :
    Calls Tryd.prog 25 #[vv k 0] w fun e w' => e = .returned (.bool false) ∧ w.alloc (bx k 0) = w' := by
  rcases hk with rfl | rfl
  all_goals
    go_enter Tryd.func25, Tryd.ntmps25
    go_wp2
    go_ret
    exact ⟨rfl, rfl⟩

set_option maxHeartbeats 1600000 in
theorem ints_a (n : Int) (h1 : -9007199254740991 ≤ n) (h2 : n ≤ 9007199254740991) (h3 : -9007199254740991 ≤ n.tmod 100) (h4 : n.tmod 100 ≤ 9007199254740991) (_h5 : -2 ≤ n.tmod 3) (_h6 : n.tmod 3 ≤ 2) (h7 : -9007199254740991 ≤ 9007199254740991 + n.tmod 3) (h8 : 9007199254740991 + n.tmod 3 ≤ 9007199254740991) (h9 : -9007199254740991 ≤ -9007199254740991 - n.tmod 3) (h10 : -9007199254740991 - n.tmod 3 ≤ 9007199254740991) (w : World) :
    Calls Tryd.prog 6 #[.int .i64 n] w fun e w' => e = .returned (.bool true) ∧ Below w.heap.size w w' := by
  go_enter Tryd.func6, Tryd.ntmps6
  go_wp2_with (first | (go_at_call 9; ((with_reducible refine (fit_any _).mono ?_); rintro e w1 ⟨rfl, hb1⟩)))
  refine wp_loop_rounds 5 ?_
  rw [rounds_succ]
  go_wp2_with (first | (go_at_call 27; ((with_reducible refine (int_in2 _ h1 h2 _).mono ?_); rintro e w' ⟨rfl, rfl⟩)) | (go_at_call 27; ((with_reducible refine (int_in2 _ h3 h4 _).mono ?_); rintro e w' ⟨rfl, rfl⟩)) | (go_at_call 27; ((with_reducible refine (int_in2 _ h7 h8 _).mono ?_); rintro e w' ⟨rfl, rfl⟩)) | (go_at_call 27; ((with_reducible refine (int_in2 _ h9 h10 _).mono ?_); rintro e w' ⟨rfl, rfl⟩)) | (go_at_call 25; ((with_reducible refine (is_no 7 (Or.inl rfl) _).mono ?_); rintro e w' ⟨rfl, rfl⟩)) | (go_at_call 25; ((with_reducible refine (is_no 0 (Or.inr rfl) _).mono ?_); rintro e w' ⟨rfl, rfl⟩)))
  rw [rounds_succ]
  go_wp2_with (first | (go_at_call 27; ((with_reducible refine (int_in2 _ h1 h2 _).mono ?_); rintro e w' ⟨rfl, rfl⟩)) | (go_at_call 27; ((with_reducible refine (int_in2 _ h3 h4 _).mono ?_); rintro e w' ⟨rfl, rfl⟩)) | (go_at_call 27; ((with_reducible refine (int_in2 _ h7 h8 _).mono ?_); rintro e w' ⟨rfl, rfl⟩)) | (go_at_call 27; ((with_reducible refine (int_in2 _ h9 h10 _).mono ?_); rintro e w' ⟨rfl, rfl⟩)) | (go_at_call 25; ((with_reducible refine (is_no 7 (Or.inl rfl) _).mono ?_); rintro e w' ⟨rfl, rfl⟩)) | (go_at_call 25; ((with_reducible refine (is_no 0 (Or.inr rfl) _).mono ?_); rintro e w' ⟨rfl, rfl⟩)))
  rw [rounds_succ]
  go_wp2_with (first | (go_at_call 27; ((with_reducible refine (int_in2 _ h1 h2 _).mono ?_); rintro e w' ⟨rfl, rfl⟩)) | (go_at_call 27; ((with_reducible refine (int_in2 _ h3 h4 _).mono ?_); rintro e w' ⟨rfl, rfl⟩)) | (go_at_call 27; ((with_reducible refine (int_in2 _ h7 h8 _).mono ?_); rintro e w' ⟨rfl, rfl⟩)) | (go_at_call 27; ((with_reducible refine (int_in2 _ h9 h10 _).mono ?_); rintro e w' ⟨rfl, rfl⟩)) | (go_at_call 25; ((with_reducible refine (is_no 7 (Or.inl rfl) _).mono ?_); rintro e w' ⟨rfl, rfl⟩)) | (go_at_call 25; ((with_reducible refine (is_no 0 (Or.inr rfl) _).mono ?_); rintro e w' ⟨rfl, rfl⟩)))
  rw [rounds_succ]
  go_wp2_with (first | (go_at_call 27; ((with_reducible refine (int_in2 _ h1 h2 _).mono ?_); rintro e w' ⟨rfl, rfl⟩)) | (go_at_call 27; ((with_reducible refine (int_in2 _ h3 h4 _).mono ?_); rintro e w' ⟨rfl, rfl⟩)) | (go_at_call 27; ((with_reducible refine (int_in2 _ h7 h8 _).mono ?_); rintro e w' ⟨rfl, rfl⟩)) | (go_at_call 27; ((with_reducible refine (int_in2 _ h9 h10 _).mono ?_); rintro e w' ⟨rfl, rfl⟩)) | (go_at_call 25; ((with_reducible refine (is_no 7 (Or.inl rfl) _).mono ?_); rintro e w' ⟨rfl, rfl⟩)) | (go_at_call 25; ((with_reducible refine (is_no 0 (Or.inr rfl) _).mono ?_); rintro e w' ⟨rfl, rfl⟩)))
  rw [rounds_succ]
  go_wp2_with (first | (go_at_call 27; ((with_reducible refine (int_in2 _ h1 h2 _).mono ?_); rintro e w' ⟨rfl, rfl⟩)) | (go_at_call 27; ((with_reducible refine (int_in2 _ h3 h4 _).mono ?_); rintro e w' ⟨rfl, rfl⟩)) | (go_at_call 27; ((with_reducible refine (int_in2 _ h7 h8 _).mono ?_); rintro e w' ⟨rfl, rfl⟩)) | (go_at_call 27; ((with_reducible refine (int_in2 _ h9 h10 _).mono ?_); rintro e w' ⟨rfl, rfl⟩)) | (go_at_call 25; ((with_reducible refine (is_no 7 (Or.inl rfl) _).mono ?_); rintro e w' ⟨rfl, rfl⟩)) | (go_at_call 25; ((with_reducible refine (is_no 0 (Or.inr rfl) _).mono ?_); rintro e w' ⟨rfl, rfl⟩)))
  go_ret
  exact ⟨rfl, by repeat (first | (with_reducible refine blw_alloc _ ?_) | (with_reducible refine Below.drew ?_) | (with_reducible exact Below.refl _ _) | (with_reducible assumption) | (with_reducible refine blw_call ?_ (by assumption)))⟩

set_option maxHeartbeats 1600000 in
theorem ints_b (n : Int) (h1 : -9007199254740991 ≤ n) (h2 : n ≤ 9007199254740991) (h3 : -9007199254740991 ≤ n.tmod 100) (h4 : n.tmod 100 ≤ 9007199254740991) (_h5 : -2 ≤ n.tmod 3) (_h6 : n.tmod 3 ≤ 2) (h7 : 9007199254740991 < 9007199254740991 + n.tmod 3) (h9 : -9007199254740991 - n.tmod 3 < -9007199254740991) (w : World) :
    Calls Tryd.prog 6 #[.int .i64 n] w fun e w' => e = .returned (.bool true) ∧ Below w.heap.size w w' := by
  go_enter Tryd.func6, Tryd.ntmps6
  go_wp2_with (first | (go_at_call 9; ((with_reducible refine (fit_any _).mono ?_); rintro e w1 ⟨rfl, hb1⟩)))
  refine wp_loop_rounds 5 ?_
  rw [rounds_succ]
  go_wp2_with (first | (go_at_call 27; ((with_reducible refine (int_in2 _ h1 h2 _).mono ?_); rintro e w' ⟨rfl, rfl⟩)) | (go_at_call 27; ((with_reducible refine (int_in2 _ h3 h4 _).mono ?_); rintro e w' ⟨rfl, rfl⟩)) | (go_at_call 27; ((with_reducible refine (int_out2 _ (Or.inr h7) _).mono ?_); rintro e w' ⟨rfl, rfl⟩)) | (go_at_call 27; ((with_reducible refine (int_out2 _ (Or.inl h9) _).mono ?_); rintro e w' ⟨rfl, rfl⟩)) | (go_at_call 25; ((with_reducible refine (is_no 7 (Or.inl rfl) _).mono ?_); rintro e w' ⟨rfl, rfl⟩)) | (go_at_call 25; ((with_reducible refine (is_no 0 (Or.inr rfl) _).mono ?_); rintro e w' ⟨rfl, rfl⟩)))
  rw [rounds_succ]
  go_wp2_with (first | (go_at_call 27; ((with_reducible refine (int_in2 _ h1 h2 _).mono ?_); rintro e w' ⟨rfl, rfl⟩)) | (go_at_call 27; ((with_reducible refine (int_in2 _ h3 h4 _).mono ?_); rintro e w' ⟨rfl, rfl⟩)) | (go_at_call 27; ((with_reducible refine (int_out2 _ (Or.inr h7) _).mono ?_); rintro e w' ⟨rfl, rfl⟩)) | (go_at_call 27; ((with_reducible refine (int_out2 _ (Or.inl h9) _).mono ?_); rintro e w' ⟨rfl, rfl⟩)) | (go_at_call 25; ((with_reducible refine (is_no 7 (Or.inl rfl) _).mono ?_); rintro e w' ⟨rfl, rfl⟩)) | (go_at_call 25; ((with_reducible refine (is_no 0 (Or.inr rfl) _).mono ?_); rintro e w' ⟨rfl, rfl⟩)))
  rw [rounds_succ]
  go_wp2_with (first | (go_at_call 27; ((with_reducible refine (int_in2 _ h1 h2 _).mono ?_); rintro e w' ⟨rfl, rfl⟩)) | (go_at_call 27; ((with_reducible refine (int_in2 _ h3 h4 _).mono ?_); rintro e w' ⟨rfl, rfl⟩)) | (go_at_call 27; ((with_reducible refine (int_out2 _ (Or.inr h7) _).mono ?_); rintro e w' ⟨rfl, rfl⟩)) | (go_at_call 27; ((with_reducible refine (int_out2 _ (Or.inl h9) _).mono ?_); rintro e w' ⟨rfl, rfl⟩)) | (go_at_call 25; ((with_reducible refine (is_no 7 (Or.inl rfl) _).mono ?_); rintro e w' ⟨rfl, rfl⟩)) | (go_at_call 25; ((with_reducible refine (is_no 0 (Or.inr rfl) _).mono ?_); rintro e w' ⟨rfl, rfl⟩)))
  rw [rounds_succ]
  go_wp2_with (first | (go_at_call 27; ((with_reducible refine (int_in2 _ h1 h2 _).mono ?_); rintro e w' ⟨rfl, rfl⟩)) | (go_at_call 27; ((with_reducible refine (int_in2 _ h3 h4 _).mono ?_); rintro e w' ⟨rfl, rfl⟩)) | (go_at_call 27; ((with_reducible refine (int_out2 _ (Or.inr h7) _).mono ?_); rintro e w' ⟨rfl, rfl⟩)) | (go_at_call 27; ((with_reducible refine (int_out2 _ (Or.inl h9) _).mono ?_); rintro e w' ⟨rfl, rfl⟩)) | (go_at_call 25; ((with_reducible refine (is_no 7 (Or.inl rfl) _).mono ?_); rintro e w' ⟨rfl, rfl⟩)) | (go_at_call 25; ((with_reducible refine (is_no 0 (Or.inr rfl) _).mono ?_); rintro e w' ⟨rfl, rfl⟩)))
  rw [rounds_succ]
  go_wp2_with (first | (go_at_call 27; ((with_reducible refine (int_in2 _ h1 h2 _).mono ?_); rintro e w' ⟨rfl, rfl⟩)) | (go_at_call 27; ((with_reducible refine (int_in2 _ h3 h4 _).mono ?_); rintro e w' ⟨rfl, rfl⟩)) | (go_at_call 27; ((with_reducible refine (int_out2 _ (Or.inr h7) _).mono ?_); rintro e w' ⟨rfl, rfl⟩)) | (go_at_call 27; ((with_reducible refine (int_out2 _ (Or.inl h9) _).mono ?_); rintro e w' ⟨rfl, rfl⟩)) | (go_at_call 25; ((with_reducible refine (is_no 7 (Or.inl rfl) _).mono ?_); rintro e w' ⟨rfl, rfl⟩)) | (go_at_call 25; ((with_reducible refine (is_no 0 (Or.inr rfl) _).mono ?_); rintro e w' ⟨rfl, rfl⟩)))
  go_ret
  exact ⟨rfl, by repeat (first | (with_reducible refine blw_alloc _ ?_) | (with_reducible refine Below.drew ?_) | (with_reducible exact Below.refl _ _) | (with_reducible assumption) | (with_reducible refine blw_call ?_ (by assumption)))⟩

set_option maxHeartbeats 1600000 in
theorem ints_c (n : Int) (h1 : n < -9007199254740991) (h3 : -9007199254740991 ≤ n.tmod 100) (h4 : n.tmod 100 ≤ 9007199254740991) (_h5 : -2 ≤ n.tmod 3) (_h6 : n.tmod 3 ≤ 2) (h7 : -9007199254740991 ≤ 9007199254740991 + n.tmod 3) (h8 : 9007199254740991 + n.tmod 3 ≤ 9007199254740991) (h9 : -9007199254740991 ≤ -9007199254740991 - n.tmod 3) (h10 : -9007199254740991 - n.tmod 3 ≤ 9007199254740991) (w : World) :
    Calls Tryd.prog 6 #[.int .i64 n] w fun e w' => e = .returned (.bool true) ∧ Below w.heap.size w w' := by
  go_enter Tryd.func6, Tryd.ntmps6
  go_wp2_with (first | (go_at_call 9; ((with_reducible refine (fit_any _).mono ?_); rintro e w1 ⟨rfl, hb1⟩)))
  refine wp_loop_rounds 5 ?_
  rw [rounds_succ]
  go_wp2_with (first | (go_at_call 27; ((with_reducible refine (int_out2 _ (Or.inl h1) _).mono ?_); rintro e w' ⟨rfl, rfl⟩)) | (go_at_call 27; ((with_reducible refine (int_in2 _ h3 h4 _).mono ?_); rintro e w' ⟨rfl, rfl⟩)) | (go_at_call 27; ((with_reducible refine (int_in2 _ h7 h8 _).mono ?_); rintro e w' ⟨rfl, rfl⟩)) | (go_at_call 27; ((with_reducible refine (int_in2 _ h9 h10 _).mono ?_); rintro e w' ⟨rfl, rfl⟩)) | (go_at_call 25; ((with_reducible refine (is_no 7 (Or.inl rfl) _).mono ?_); rintro e w' ⟨rfl, rfl⟩)) | (go_at_call 25; ((with_reducible refine (is_no 0 (Or.inr rfl) _).mono ?_); rintro e w' ⟨rfl, rfl⟩)))
  rw [rounds_succ]
  go_wp2_with (first | (go_at_call 27; ((with_reducible refine (int_out2 _ (Or.inl h1) _).mono ?_); rintro e w' ⟨rfl, rfl⟩)) | (go_at_call 27; ((with_reducible refine (int_in2 _ h3 h4 _).mono ?_); rintro e w' ⟨rfl, rfl⟩)) | (go_at_call 27; ((with_reducible refine (int_in2 _ h7 h8 _).mono ?_); rintro e w' ⟨rfl, rfl⟩)) | (go_at_call 27; ((with_reducible refine (int_in2 _ h9 h10 _).mono ?_); rintro e w' ⟨rfl, rfl⟩)) | (go_at_call 25; ((with_reducible refine (is_no 7 (Or.inl rfl) _).mono ?_); rintro e w' ⟨rfl, rfl⟩)) | (go_at_call 25; ((with_reducible refine (is_no 0 (Or.inr rfl) _).mono ?_); rintro e w' ⟨rfl, rfl⟩)))
  rw [rounds_succ]
  go_wp2_with (first | (go_at_call 27; ((with_reducible refine (int_out2 _ (Or.inl h1) _).mono ?_); rintro e w' ⟨rfl, rfl⟩)) | (go_at_call 27; ((with_reducible refine (int_in2 _ h3 h4 _).mono ?_); rintro e w' ⟨rfl, rfl⟩)) | (go_at_call 27; ((with_reducible refine (int_in2 _ h7 h8 _).mono ?_); rintro e w' ⟨rfl, rfl⟩)) | (go_at_call 27; ((with_reducible refine (int_in2 _ h9 h10 _).mono ?_); rintro e w' ⟨rfl, rfl⟩)) | (go_at_call 25; ((with_reducible refine (is_no 7 (Or.inl rfl) _).mono ?_); rintro e w' ⟨rfl, rfl⟩)) | (go_at_call 25; ((with_reducible refine (is_no 0 (Or.inr rfl) _).mono ?_); rintro e w' ⟨rfl, rfl⟩)))
  rw [rounds_succ]
  go_wp2_with (first | (go_at_call 27; ((with_reducible refine (int_out2 _ (Or.inl h1) _).mono ?_); rintro e w' ⟨rfl, rfl⟩)) | (go_at_call 27; ((with_reducible refine (int_in2 _ h3 h4 _).mono ?_); rintro e w' ⟨rfl, rfl⟩)) | (go_at_call 27; ((with_reducible refine (int_in2 _ h7 h8 _).mono ?_); rintro e w' ⟨rfl, rfl⟩)) | (go_at_call 27; ((with_reducible refine (int_in2 _ h9 h10 _).mono ?_); rintro e w' ⟨rfl, rfl⟩)) | (go_at_call 25; ((with_reducible refine (is_no 7 (Or.inl rfl) _).mono ?_); rintro e w' ⟨rfl, rfl⟩)) | (go_at_call 25; ((with_reducible refine (is_no 0 (Or.inr rfl) _).mono ?_); rintro e w' ⟨rfl, rfl⟩)))
  rw [rounds_succ]
  go_wp2_with (first | (go_at_call 27; ((with_reducible refine (int_out2 _ (Or.inl h1) _).mono ?_); rintro e w' ⟨rfl, rfl⟩)) | (go_at_call 27; ((with_reducible refine (int_in2 _ h3 h4 _).mono ?_); rintro e w' ⟨rfl, rfl⟩)) | (go_at_call 27; ((with_reducible refine (int_in2 _ h7 h8 _).mono ?_); rintro e w' ⟨rfl, rfl⟩)) | (go_at_call 27; ((with_reducible refine (int_in2 _ h9 h10 _).mono ?_); rintro e w' ⟨rfl, rfl⟩)) | (go_at_call 25; ((with_reducible refine (is_no 7 (Or.inl rfl) _).mono ?_); rintro e w' ⟨rfl, rfl⟩)) | (go_at_call 25; ((with_reducible refine (is_no 0 (Or.inr rfl) _).mono ?_); rintro e w' ⟨rfl, rfl⟩)))
  go_ret
  exact ⟨rfl, by repeat (first | (with_reducible refine blw_alloc _ ?_) | (with_reducible refine Below.drew ?_) | (with_reducible exact Below.refl _ _) | (with_reducible assumption) | (with_reducible refine blw_call ?_ (by assumption)))⟩

set_option maxHeartbeats 1600000 in
theorem ints_d (n : Int) (h1 : n < -9007199254740991) (h3 : -9007199254740991 ≤ n.tmod 100) (h4 : n.tmod 100 ≤ 9007199254740991) (_h5 : -2 ≤ n.tmod 3) (_h6 : n.tmod 3 ≤ 2) (h7 : 9007199254740991 < 9007199254740991 + n.tmod 3) (h9 : -9007199254740991 - n.tmod 3 < -9007199254740991) (w : World) :
    Calls Tryd.prog 6 #[.int .i64 n] w fun e w' => e = .returned (.bool true) ∧ Below w.heap.size w w' := by
  go_enter Tryd.func6, Tryd.ntmps6
  go_wp2_with (first | (go_at_call 9; ((with_reducible refine (fit_any _).mono ?_); rintro e w1 ⟨rfl, hb1⟩)))
  refine wp_loop_rounds 5 ?_
  rw [rounds_succ]
  go_wp2_with (first | (go_at_call 27; ((with_reducible refine (int_out2 _ (Or.inl h1) _).mono ?_); rintro e w' ⟨rfl, rfl⟩)) | (go_at_call 27; ((with_reducible refine (int_in2 _ h3 h4 _).mono ?_); rintro e w' ⟨rfl, rfl⟩)) | (go_at_call 27; ((with_reducible refine (int_out2 _ (Or.inr h7) _).mono ?_); rintro e w' ⟨rfl, rfl⟩)) | (go_at_call 27; ((with_reducible refine (int_out2 _ (Or.inl h9) _).mono ?_); rintro e w' ⟨rfl, rfl⟩)) | (go_at_call 25; ((with_reducible refine (is_no 7 (Or.inl rfl) _).mono ?_); rintro e w' ⟨rfl, rfl⟩)) | (go_at_call 25; ((with_reducible refine (is_no 0 (Or.inr rfl) _).mono ?_); rintro e w' ⟨rfl, rfl⟩)))
  rw [rounds_succ]
  go_wp2_with (first | (go_at_call 27; ((with_reducible refine (int_out2 _ (Or.inl h1) _).mono ?_); rintro e w' ⟨rfl, rfl⟩)) | (go_at_call 27; ((with_reducible refine (int_in2 _ h3 h4 _).mono ?_); rintro e w' ⟨rfl, rfl⟩)) | (go_at_call 27; ((with_reducible refine (int_out2 _ (Or.inr h7) _).mono ?_); rintro e w' ⟨rfl, rfl⟩)) | (go_at_call 27; ((with_reducible refine (int_out2 _ (Or.inl h9) _).mono ?_); rintro e w' ⟨rfl, rfl⟩)) | (go_at_call 25; ((with_reducible refine (is_no 7 (Or.inl rfl) _).mono ?_); rintro e w' ⟨rfl, rfl⟩)) | (go_at_call 25; ((with_reducible refine (is_no 0 (Or.inr rfl) _).mono ?_); rintro e w' ⟨rfl, rfl⟩)))
  rw [rounds_succ]
  go_wp2_with (first | (go_at_call 27; ((with_reducible refine (int_out2 _ (Or.inl h1) _).mono ?_); rintro e w' ⟨rfl, rfl⟩)) | (go_at_call 27; ((with_reducible refine (int_in2 _ h3 h4 _).mono ?_); rintro e w' ⟨rfl, rfl⟩)) | (go_at_call 27; ((with_reducible refine (int_out2 _ (Or.inr h7) _).mono ?_); rintro e w' ⟨rfl, rfl⟩)) | (go_at_call 27; ((with_reducible refine (int_out2 _ (Or.inl h9) _).mono ?_); rintro e w' ⟨rfl, rfl⟩)) | (go_at_call 25; ((with_reducible refine (is_no 7 (Or.inl rfl) _).mono ?_); rintro e w' ⟨rfl, rfl⟩)) | (go_at_call 25; ((with_reducible refine (is_no 0 (Or.inr rfl) _).mono ?_); rintro e w' ⟨rfl, rfl⟩)))
  rw [rounds_succ]
  go_wp2_with (first | (go_at_call 27; ((with_reducible refine (int_out2 _ (Or.inl h1) _).mono ?_); rintro e w' ⟨rfl, rfl⟩)) | (go_at_call 27; ((with_reducible refine (int_in2 _ h3 h4 _).mono ?_); rintro e w' ⟨rfl, rfl⟩)) | (go_at_call 27; ((with_reducible refine (int_out2 _ (Or.inr h7) _).mono ?_); rintro e w' ⟨rfl, rfl⟩)) | (go_at_call 27; ((with_reducible refine (int_out2 _ (Or.inl h9) _).mono ?_); rintro e w' ⟨rfl, rfl⟩)) | (go_at_call 25; ((with_reducible refine (is_no 7 (Or.inl rfl) _).mono ?_); rintro e w' ⟨rfl, rfl⟩)) | (go_at_call 25; ((with_reducible refine (is_no 0 (Or.inr rfl) _).mono ?_); rintro e w' ⟨rfl, rfl⟩)))
  rw [rounds_succ]
  go_wp2_with (first | (go_at_call 27; ((with_reducible refine (int_out2 _ (Or.inl h1) _).mono ?_); rintro e w' ⟨rfl, rfl⟩)) | (go_at_call 27; ((with_reducible refine (int_in2 _ h3 h4 _).mono ?_); rintro e w' ⟨rfl, rfl⟩)) | (go_at_call 27; ((with_reducible refine (int_out2 _ (Or.inr h7) _).mono ?_); rintro e w' ⟨rfl, rfl⟩)) | (go_at_call 27; ((with_reducible refine (int_out2 _ (Or.inl h9) _).mono ?_); rintro e w' ⟨rfl, rfl⟩)) | (go_at_call 25; ((with_reducible refine (is_no 7 (Or.inl rfl) _).mono ?_); rintro e w' ⟨rfl, rfl⟩)) | (go_at_call 25; ((with_reducible refine (is_no 0 (Or.inr rfl) _).mono ?_); rintro e w' ⟨rfl, rfl⟩)))
  go_ret
  exact ⟨rfl, by repeat (first | (with_reducible refine blw_alloc _ ?_) | (with_reducible refine Below.drew ?_) | (with_reducible exact Below.refl _ _) | (with_reducible assumption) | (with_reducible refine blw_call ?_ (by assumption)))⟩

set_option maxHeartbeats 1600000 in
theorem ints_e (n : Int) (h1 : 9007199254740991 < n) (h3 : -9007199254740991 ≤ n % 100) (h4 : n % 100 ≤ 9007199254740991) (_h5 : -2 ≤ n % 3) (_h6 : n % 3 ≤ 2) (h7 : -9007199254740991 ≤ 9007199254740991 + n % 3) (h8 : 9007199254740991 + n % 3 ≤ 9007199254740991) (h9 : -9007199254740991 ≤ -9007199254740991 - n % 3) (h10 : -9007199254740991 - n % 3 ≤ 9007199254740991) (w : World) :
    Calls Tryd.prog 6 #[.int .i64 n] w fun e w' => e = .returned (.bool true) ∧ Below w.heap.size w w' := by
  go_enter Tryd.func6, Tryd.ntmps6
  go_wp2_with (first | (go_at_call 9; ((with_reducible refine (fit_any _).mono ?_); rintro e w1 ⟨rfl, hb1⟩)))
  refine wp_loop_rounds 5 ?_
  rw [rounds_succ]
  go_wp2_with (first | (go_at_call 27; ((with_reducible refine (int_out2 _ (Or.inr h1) _).mono ?_); rintro e w' ⟨rfl, rfl⟩)) | (go_at_call 27; ((with_reducible refine (int_in2 _ h3 h4 _).mono ?_); rintro e w' ⟨rfl, rfl⟩)) | (go_at_call 27; ((with_reducible refine (int_in2 _ h7 h8 _).mono ?_); rintro e w' ⟨rfl, rfl⟩)) | (go_at_call 27; ((with_reducible refine (int_in2 _ h9 h10 _).mono ?_); rintro e w' ⟨rfl, rfl⟩)) | (go_at_call 25; ((with_reducible refine (is_no 7 (Or.inl rfl) _).mono ?_); rintro e w' ⟨rfl, rfl⟩)) | (go_at_call 25; ((with_reducible refine (is_no 0 (Or.inr rfl) _).mono ?_); rintro e w' ⟨rfl, rfl⟩)))
  rw [rounds_succ]
  go_wp2_with (first | (go_at_call 27; ((with_reducible refine (int_out2 _ (Or.inr h1) _).mono ?_); rintro e w' ⟨rfl, rfl⟩)) | (go_at_call 27; ((with_reducible refine (int_in2 _ h3 h4 _).mono ?_); rintro e w' ⟨rfl, rfl⟩)) | (go_at_call 27; ((with_reducible refine (int_in2 _ h7 h8 _).mono ?_); rintro e w' ⟨rfl, rfl⟩)) | (go_at_call 27; ((with_reducible refine (int_in2 _ h9 h10 _).mono ?_); rintro e w' ⟨rfl, rfl⟩)) | (go_at_call 25; ((with_reducible refine (is_no 7 (Or.inl rfl) _).mono ?_); rintro e w' ⟨rfl, rfl⟩)) | (go_at_call 25; ((with_reducible refine (is_no 0 (Or.inr rfl) _).mono ?_); rintro e w' ⟨rfl, rfl⟩)))
  rw [rounds_succ]
  go_wp2_with (first | (go_at_call 27; ((with_reducible refine (int_out2 _ (Or.inr h1) _).mono ?_); rintro e w' ⟨rfl, rfl⟩)) | (go_at_call 27; ((with_reducible refine (int_in2 _ h3 h4 _).mono ?_); rintro e w' ⟨rfl, rfl⟩)) | (go_at_call 27; ((with_reducible refine (int_in2 _ h7 h8 _).mono ?_); rintro e w' ⟨rfl, rfl⟩)) | (go_at_call 27; ((with_reducible refine (int_in2 _ h9 h10 _).mono ?_); rintro e w' ⟨rfl, rfl⟩)) | (go_at_call 25; ((with_reducible refine (is_no 7 (Or.inl rfl) _).mono ?_); rintro e w' ⟨rfl, rfl⟩)) | (go_at_call 25; ((with_reducible refine (is_no 0 (Or.inr rfl) _).mono ?_); rintro e w' ⟨rfl, rfl⟩)))
  rw [rounds_succ]
  go_wp2_with (first | (go_at_call 27; ((with_reducible refine (int_out2 _ (Or.inr h1) _).mono ?_); rintro e w' ⟨rfl, rfl⟩)) | (go_at_call 27; ((with_reducible refine (int_in2 _ h3 h4 _).mono ?_); rintro e w' ⟨rfl, rfl⟩)) | (go_at_call 27; ((with_reducible refine (int_in2 _ h7 h8 _).mono ?_); rintro e w' ⟨rfl, rfl⟩)) | (go_at_call 27; ((with_reducible refine (int_in2 _ h9 h10 _).mono ?_); rintro e w' ⟨rfl, rfl⟩)) | (go_at_call 25; ((with_reducible refine (is_no 7 (Or.inl rfl) _).mono ?_); rintro e w' ⟨rfl, rfl⟩)) | (go_at_call 25; ((with_reducible refine (is_no 0 (Or.inr rfl) _).mono ?_); rintro e w' ⟨rfl, rfl⟩)))
  rw [rounds_succ]
  go_wp2_with (first | (go_at_call 27; ((with_reducible refine (int_out2 _ (Or.inr h1) _).mono ?_); rintro e w' ⟨rfl, rfl⟩)) | (go_at_call 27; ((with_reducible refine (int_in2 _ h3 h4 _).mono ?_); rintro e w' ⟨rfl, rfl⟩)) | (go_at_call 27; ((with_reducible refine (int_in2 _ h7 h8 _).mono ?_); rintro e w' ⟨rfl, rfl⟩)) | (go_at_call 27; ((with_reducible refine (int_in2 _ h9 h10 _).mono ?_); rintro e w' ⟨rfl, rfl⟩)) | (go_at_call 25; ((with_reducible refine (is_no 7 (Or.inl rfl) _).mono ?_); rintro e w' ⟨rfl, rfl⟩)) | (go_at_call 25; ((with_reducible refine (is_no 0 (Or.inr rfl) _).mono ?_); rintro e w' ⟨rfl, rfl⟩)))
  go_ret
  exact ⟨rfl, by repeat (first | (with_reducible refine blw_alloc _ ?_) | (with_reducible refine Below.drew ?_) | (with_reducible exact Below.refl _ _) | (with_reducible assumption) | (with_reducible refine blw_call ?_ (by assumption)))⟩

set_option maxHeartbeats 1600000 in
theorem ints_f (n : Int) (h1 : 9007199254740991 < n) (h3 : -9007199254740991 ≤ n % 100) (h4 : n % 100 ≤ 9007199254740991) (_h5 : -2 ≤ n % 3) (_h6 : n % 3 ≤ 2) (h7 : 9007199254740991 < 9007199254740991 + n % 3) (h9 : -9007199254740991 - n % 3 < -9007199254740991) (w : World) :
    Calls Tryd.prog 6 #[.int .i64 n] w fun e w' => e = .returned (.bool true) ∧ Below w.heap.size w w' := by
  go_enter Tryd.func6, Tryd.ntmps6
  go_wp2_with (first | (go_at_call 9; ((with_reducible refine (fit_any _).mono ?_); rintro e w1 ⟨rfl, hb1⟩)))
  refine wp_loop_rounds 5 ?_
  rw [rounds_succ]
  go_wp2_with (first | (go_at_call 27; ((with_reducible refine (int_out2 _ (Or.inr h1) _).mono ?_); rintro e w' ⟨rfl, rfl⟩)) | (go_at_call 27; ((with_reducible refine (int_in2 _ h3 h4 _).mono ?_); rintro e w' ⟨rfl, rfl⟩)) | (go_at_call 27; ((with_reducible refine (int_out2 _ (Or.inr h7) _).mono ?_); rintro e w' ⟨rfl, rfl⟩)) | (go_at_call 27; ((with_reducible refine (int_out2 _ (Or.inl h9) _).mono ?_); rintro e w' ⟨rfl, rfl⟩)) | (go_at_call 25; ((with_reducible refine (is_no 7 (Or.inl rfl) _).mono ?_); rintro e w' ⟨rfl, rfl⟩)) | (go_at_call 25; ((with_reducible refine (is_no 0 (Or.inr rfl) _).mono ?_); rintro e w' ⟨rfl, rfl⟩)))
  rw [rounds_succ]
  go_wp2_with (first | (go_at_call 27; ((with_reducible refine (int_out2 _ (Or.inr h1) _).mono ?_); rintro e w' ⟨rfl, rfl⟩)) | (go_at_call 27; ((with_reducible refine (int_in2 _ h3 h4 _).mono ?_); rintro e w' ⟨rfl, rfl⟩)) | (go_at_call 27; ((with_reducible refine (int_out2 _ (Or.inr h7) _).mono ?_); rintro e w' ⟨rfl, rfl⟩)) | (go_at_call 27; ((with_reducible refine (int_out2 _ (Or.inl h9) _).mono ?_); rintro e w' ⟨rfl, rfl⟩)) | (go_at_call 25; ((with_reducible refine (is_no 7 (Or.inl rfl) _).mono ?_); rintro e w' ⟨rfl, rfl⟩)) | (go_at_call 25; ((with_reducible refine (is_no 0 (Or.inr rfl) _).mono ?_); rintro e w' ⟨rfl, rfl⟩)))
  rw [rounds_succ]
  go_wp2_with (first | (go_at_call 27; ((with_reducible refine (int_out2 _ (Or.inr h1) _).mono ?_); rintro e w' ⟨rfl, rfl⟩)) | (go_at_call 27; ((with_reducible refine (int_in2 _ h3 h4 _).mono ?_); rintro e w' ⟨rfl, rfl⟩)) | (go_at_call 27; ((with_reducible refine (int_out2 _ (Or.inr h7) _).mono ?_); rintro e w' ⟨rfl, rfl⟩)) | (go_at_call 27; ((with_reducible refine (int_out2 _ (Or.inl h9) _).mono ?_); rintro e w' ⟨rfl, rfl⟩)) | (go_at_call 25; ((with_reducible refine (is_no 7 (Or.inl rfl) _).mono ?_); rintro e w' ⟨rfl, rfl⟩)) | (go_at_call 25; ((with_reducible refine (is_no 0 (Or.inr rfl) _).mono ?_); rintro e w' ⟨rfl, rfl⟩)))
  rw [rounds_succ]
  go_wp2_with (first | (go_at_call 27; ((with_reducible refine (int_out2 _ (Or.inr h1) _).mono ?_); rintro e w' ⟨rfl, rfl⟩)) | (go_at_call 27; ((with_reducible refine (int_in2 _ h3 h4 _).mono ?_); rintro e w' ⟨rfl, rfl⟩)) | (go_at_call 27; ((with_reducible refine (int_out2 _ (Or.inr h7) _).mono ?_); rintro e w' ⟨rfl, rfl⟩)) | (go_at_call 27; ((with_reducible refine (int_out2 _ (Or.inl h9) _).mono ?_); rintro e w' ⟨rfl, rfl⟩)) | (go_at_call 25; ((with_reducible refine (is_no 7 (Or.inl rfl) _).mono ?_); rintro e w' ⟨rfl, rfl⟩)) | (go_at_call 25; ((with_reducible refine (is_no 0 (Or.inr rfl) _).mono ?_); rintro e w' ⟨rfl, rfl⟩)))
  rw [rounds_succ]
  go_wp2_with (first | (go_at_call 27; ((with_reducible refine (int_out2 _ (Or.inr h1) _).mono ?_); rintro e w' ⟨rfl, rfl⟩)) | (go_at_call 27; ((with_reducible refine (int_in2 _ h3 h4 _).mono ?_); rintro e w' ⟨rfl, rfl⟩)) | (go_at_call 27; ((with_reducible refine (int_out2 _ (Or.inr h7) _).mono ?_); rintro e w' ⟨rfl, rfl⟩)) | (go_at_call 27; ((with_reducible refine (int_out2 _ (Or.inl h9) _).mono ?_); rintro e w' ⟨rfl, rfl⟩)) | (go_at_call 25; ((with_reducible refine (is_no 7 (Or.inl rfl) _).mono ?_); rintro e w' ⟨rfl, rfl⟩)) | (go_at_call 25; ((with_reducible refine (is_no 0 (Or.inr rfl) _).mono ?_); rintro e w' ⟨rfl, rfl⟩)))
  go_ret
  exact ⟨rfl, by repeat (first | (with_reducible refine blw_alloc _ ?_) | (with_reducible refine Below.drew ?_) | (with_reducible exact Below.refl _ _) | (with_reducible assumption) | (with_reducible refine blw_call ?_ (by assumption)))⟩

theorem tmod_le (n m : Int) (hm : 0 < m) : -m < n.tmod m ∧ n.tmod m < m := by
  have h := Int.tmod_lt_of_pos n (b := m) hm
  have h2 := Int.tmod_lt_of_pos (-n) (b := m) hm
  rw [Int.neg_tmod] at h2
  omega
theorem ints_all (n : Int) (_ : (Lit.int .i64 n).wf = true) (w : World) (_ : laidMetH Tryd.prog tabs w) :
    Calls Tryd.prog 6 #[.int .i64 n] w fun e w' => e = .returned (.bool true) ∧ Below w.heap.size w w' := by
  have ha := tmod_le n 100 (by omega)
  have hb := tmod_le n 3 (by omega)
  by_cases h1 : n < -9007199254740991
  · by_cases hr : n.tmod 3 ≤ 0
    · exact ints_c n h1 (by omega) (by omega) (by omega) (by omega) (by omega) (by omega) (by omega) (by omega) w
    · exact ints_d n h1 (by omega) (by omega) (by omega) (by omega) (by omega) (by omega) w
  by_cases h2 : 9007199254740991 < n
  · by_cases hr : n % 3 ≤ 0
    · exact ints_e n h2 (by omega) (by omega) (by omega) (by omega) (by omega) (by omega) (by omega) (by omega) w
    · exact ints_f n h2 (by omega) (by omega) (by omega) (by omega) (by omega) (by omega) w
  by_cases hr : n.tmod 3 ≤ 0
  · exact ints_a n (by omega) (by omega) (by omega) (by omega) (by omega) (by omega) (by omega) (by omega) (by omega) (by omega) w
  · exact ints_b n (by omega) (by omega) (by omega) (by omega) (by omega) (by omega) (by omega) (by omega) w

section
set_option maxRecDepth 100000 in
theorem numInts_lifted (os : Os) (started : os.Started) (H : Type) (enc : TypeId × Value → H) :
    ReturnsInHanded {} Tryd.checked os 6 .any (fun w args => (Rows.numIntsSpec.pre enc Tryd.prog Tryd.f6 [] false w args ∧ laidMetH Tryd.prog tabs w) ∧ sizedMet enc Tryd.prog Tryd.f6 (OpenSpec.ofChange Rows.numIntsSpec) false w args)
      (Rows.numIntsSpec.post enc Tryd.prog Tryd.f6 false true false false) := by
  refine returnsInHanded_of_change_and (C := Tryd.checked) (X := fun w _ => laidMetH Tryd.prog tabs w) (fun _ _ _ hh h => h.of_heap hh) own started (by kernel_rfl) Tryd.func6
    (ChangeSpec.witness_shaped (enc := enc) (C := Tryd.checked) (os := os) (X := fun w _ => laidMetH Tryd.prog tabs w) false (World.doorLaid Tryd.prog 400 os) #[.int .i64 0] 8 rfl (World.shaped_of_RefB (by kernel_rfl) (by kernel_rfl)) (by kernel_rfl) (by kernel_rfl) (by kernel_rfl) (door_met os _)) ?_
  intro W base args ds gs before hval0 hW _ _ hL _
  have hval : ∀ (j : Nat) t v, Tryd.f6.params[j]? = some t → args[j]? = some v → Value.okWide Tryd.prog W .any base t v := hval0
  have hW' := hW
  obtain ⟨p, q, hA0, hV, rfl, hfz, hnd⟩ := hW
  have hA : DataW.TrodAll enc Tryd.prog W 0 (fun _ => true) true Tryd.f6.params.toList args.toList ds p := hA0
  rw [Tryd.params6] at hA hval
  obtain ⟨v0, vs0, d0, ds0, p0, q0, hargs, rfl, rfl, h0, r0⟩ := trodAll_cons hA
  obtain ⟨rfl, rfl, rfl⟩ := trodAll_nil r0
  obtain rfl : args = #[v0] := by cases args; simp_all
  obtain ⟨rfl, rfl⟩ := trodVars_none hV
  obtain ⟨a0, rfl, rfl, rfl, w0⟩ := open_int Tryd.underlying2 (hval 0 2 v0 rfl rfl) h0
  clear hA0 hval0
  simp only [List.append_nil] at hW'
  refine (ints_all a0 w0 W hL).mono fun e W' ⟨he, hg⟩ => ?_
  subst he
  exact ⟨_, rfl, law_post hW' hg rfl rfl rfl (trodAll_cons_mk (shut_int Tryd.underlying2 w0) trodAll_mk0)⟩

theorem numInts_said : Rows.NumIntsSaid :=
  OpenClaim.holds_of_wide 6 Tryd.f6 rfl rfl rfl rfl rfl rfl rfl ⟨rfl, rfl, rfl, rfl, rfl⟩ rfl rfl rfl rfl rfl (by kernel_rfl) Tryd.func6 (by kernel_rfl)
    (of_decide_eq_true (by kernel_rfl)) (by unfold Func.isWrapper; first | (rw [if_pos (by decide +kernel)]; kernel_rfl) | (rw [if_neg (by decide +kernel)]; exact ⟨rfl, rfl⟩))
    (fun os started H enc _ => numInts_lifted os started H enc)

/-- The tied card: for every input NumInts returns true. -/
theorem numInts_holds : Rows.NumIntsCardSaid :=
  Claim7.holds_tied_plain_at .later [] [.data, .data, .data] true (true, "4f3b660b2015560120ddffd10400e03a48c63fafadd340cf872e1ac63a8be49c") false
    numInts_said (fun _ h => by cases h) (by kernel_rfl) (fun _ h => by cases h) numInts_row_tie rfl ⟨rfl, rfl⟩ (by kernel_rfl) rfl
    (fun f fn hf hfn => by
      obtain rfl : f = 6 := Option.some.inj ((show Tryd.prog.funcNamed "ossuary/ossuarylaw01.NumInts" = some 6 by kernel_rfl).symm.trans hf) |>.symm
      obtain rfl : fn = Tryd.f6 := (Option.some.inj (Tryd.func6.symm.trans hfn)).symm
      exact ⟨by kernel_rfl, fun j t ht => by
        rw [Tryd.params6] at ht
        have hm : t ∈ [2] := by
          have := Array.mem_of_getElem? ht
          simp at this
          simp [this]
        have hall : ([2].all fun u => !Tryd.prog.wantsStandIn u) = true := by kernel_rfl
        exact (show Tryd.prog.wantsStandIn t = false by simpa using List.all_eq_true.1 hall t hm)⟩)
    (by kernel_rfl)
#print axioms numInts_holds
end
end Go.Proofs.YtgeaecljfmbleaaDoor
