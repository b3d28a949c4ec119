/- Contracts of the small functions of package num: each returns what its name says, and makes only the memory that is named. -/
import Derived.Test.YtbkgophgclpijaaDoorRows
import Derived.WalkKit
import Derived.WalkSpells
import Derived.WalkLawsBesides
import Derived.Below
import Derived.BigQuiet
import Derived.IntWalk
namespace Go.Proofs.YtbkgophgclpijaaDoor.M
open Go.RowKit

/-- A value of package api with an empty text. -/
abbrev vv (k n : Int) : Value := .agg #[.int .i64 k, .int .i64 n, .string ⟨#[]⟩]
/-- The block in which such a value lies. -/
abbrev bx (k n : Int) : Obj := .cells #[.int .i64 k, .int .i64 n, .string ⟨#[]⟩] 27

theorem integer_any (n : Int) (w : World) :
    Calls Tryd.prog 100 #[.int .i64 n] w fun e w' => e = .returned (vv 3 n) ∧ w.alloc (bx 3 n) = w' := by
  go_enter Tryd.func100, Tryd.ntmps100
  go_wp2
  exact bodyPost_ret (v := vv 3 n) (by simp [results, Tryd.results100, go_sem]) rfl ⟨rfl, rfl⟩

theorem nan_any (w : World) :
    Calls Tryd.prog 92 #[] w fun e w' => e = .returned (vv 4 0) ∧ w.alloc (bx 4 0) = w' := by
  go_enter Tryd.func92, Tryd.ntmps92
  go_wp2
  exact bodyPost_ret (v := vv 4 0) (by simp [results, Tryd.results92, go_sem]) rfl ⟨rfl, rfl⟩

theorem infinity_any (m : Bool) (w : World) :
    Calls Tryd.prog 97 #[.bool m] w fun e w' => e = .returned (vv 5 (if m then -1 else 1)) ∧ w.alloc (bx 5 (if m then -1 else 1)) = w' := by
  cases m
  · go_enter Tryd.func97, Tryd.ntmps97
    go_wp2
    exact bodyPost_ret (v := vv 5 1) (by simp [results, Tryd.results97, go_sem]) rfl ⟨rfl, rfl⟩
  · go_enter Tryd.func97, Tryd.ntmps97
    go_wp2
    exact bodyPost_ret (v := vv 5 (-1)) (by simp [results, Tryd.results97, go_sem]) rfl ⟨rfl, rfl⟩

theorem zero_pos (w : World) :
    Calls Tryd.prog 98 #[.bool false] w fun e w' => e = .returned (vv 3 0) ∧ (w.alloc (bx 3 0)).alloc (bx 3 0) = w' := by
  go_enter Tryd.func98, Tryd.ntmps98
  go_wp2_with (go_at_call 100; refine (integer_any _ _).mono ?_; rintro e w' ⟨rfl, rfl⟩)
  exact bodyPost_ret (v := vv 3 0) (by simp [results, Tryd.results98, go_sem]) rfl ⟨rfl, rfl⟩
theorem zero_neg (w : World) :
    Calls Tryd.prog 98 #[.bool true] w fun e w' => e = .returned (vv 6 0) ∧ w.alloc (bx 6 0) = w' := by
  go_enter Tryd.func98, Tryd.ntmps98
  go_wp2
  exact bodyPost_ret (v := vv 6 0) (by simp [results, Tryd.results98, go_sem]) rfl ⟨rfl, rfl⟩

theorem isInf_any (k n : Int) (w : World) :
    Calls Tryd.prog 91 #[vv k n] w fun e w' => e = .returned (.bool (k == 5)) ∧ w.alloc (bx k n) = w' := by
  go_enter Tryd.func91, Tryd.ntmps91
  go_wp2
  go_ret
  exact ⟨rfl, rfl⟩

def negB (k n : Int) : Bool := k == 6 || decide (n < 0)
theorem isNegative_any (k n : Int) (w : World) :
    Calls Tryd.prog 95 #[vv k n] w fun e w' => e = .returned (.bool (negB k n)) ∧ w.alloc (bx k n) = w' := by
  unfold negB
  by_cases hk : k = 6
  · subst hk
    go_enter Tryd.func95, Tryd.ntmps95
    go_wp2
    go_ret
    exact ⟨rfl, rfl⟩
  · have h6 : (k == 6) = false := by simpa using hk
    go_enter Tryd.func95, Tryd.ntmps95
    go_wp2
    go_ret
    simp [hk]

def zerB (k n : Int) : Bool := k == 6 || k == 3 && n == 0
theorem isZero_any (k n : Int) (w : World) :
    Calls Tryd.prog 96 #[vv k n] w fun e w' => e = .returned (.bool (zerB k n)) ∧ w.alloc (bx k n) = w' := by
  unfold zerB
  by_cases hk : k = 6
  · subst hk
    go_enter Tryd.func96, Tryd.ntmps96
    go_wp2
    go_ret
    exact ⟨rfl, rfl⟩
  · have h6 : (k == 6) = false := by simpa using hk
    by_cases h3 : k = 3
    · subst h3
      go_enter Tryd.func96, Tryd.ntmps96
      go_wp2
      go_ret
      simp
    · have h33 : (k == 3) = false := by simpa using h3
      go_enter Tryd.func96, Tryd.ntmps96
      go_wp2
      go_ret
      simp [hk, h3]

/-- A number: NaN, an infinity, -0, or a whole number within the bound. -/
def Num (k n : Int) : Prop := k = 4 ∧ n = 0 ∨ k = 5 ∧ n = 1 ∨ k = 5 ∧ n = -1 ∨ k = 6 ∧ n = 0 ∨ k = 3 ∧ -9007199254740991 ≤ n ∧ n ≤ 9007199254740991
theorem is_any (k n : Int) (h : Num k n) (w : World) :
    Calls Tryd.prog 46 #[vv k n] w fun e w' => e = .returned (.bool true) ∧ w.alloc (bx k n) = w' := by
  rcases h with ⟨rfl, rfl⟩ | ⟨rfl, rfl⟩ | ⟨rfl, rfl⟩ | ⟨rfl, rfl⟩ | ⟨rfl, h1, h2⟩
  all_goals
    go_enter Tryd.func46, Tryd.ntmps46
    go_wp2
    go_ret
    exact ⟨rfl, rfl⟩
theorem isNaN_nan (w : World) :
    Calls Tryd.prog 66 #[vv 4 0] w fun e w' => e = .returned (.bool true) ∧ w.alloc (bx 4 0) = w' := by
  go_enter Tryd.func66, Tryd.ntmps66
  go_wp2
  go_ret
  exact ⟨rfl, rfl⟩
theorem isNaN_not (k n : Int) (h : Num k n) (hk : (k == 4) = false) (w : World) :
    Calls Tryd.prog 66 #[vv k n] w fun e w' => e = .returned (.bool false) ∧ (w.alloc (bx k n)).alloc (bx k n) = w' := by
  go_enter Tryd.func66, Tryd.ntmps66
  go_wp2_with (go_at_call 46; refine (is_any _ _ h _).mono ?_; rintro e w' ⟨rfl, rfl⟩)
  go_ret
  exact ⟨rfl, rfl⟩

/-- How great a number is. -/
def mg (n : Int) : Int := n.natAbs
theorem magnitude_any (k n : Int) (h1 : -9007199254740991 ≤ n) (h2 : n ≤ 9007199254740991) (w : World) :
    Calls Tryd.prog 99 #[vv k n] w fun e w' => e = .returned (.int .i64 (mg n)) ∧ w.alloc (bx k n) = w' := by
  unfold mg
  by_cases h : n < -n
  · have hm : ((n.natAbs : Nat) : Int) = -n := by omega
    rw [hm]; clear hm
    go_enter Tryd.func99, Tryd.ntmps99
    go_wp2
    all_goals first | omega | (go_ret; exact ⟨rfl, rfl⟩)
  · have hm : ((n.natAbs : Nat) : Int) = n := by omega
    rw [hm]; clear hm
    go_enter Tryd.func99, Tryd.ntmps99
    go_wp2
    all_goals first | omega | (go_ret; exact ⟨rfl, rfl⟩)

theorem blw_alloc {w w' : World} (o : Obj) (h : Below w.heap.size w w') : Below w.heap.size w (w'.alloc o) := h.alloc h.size o

theorem int_in (n : Int) (h1 : -9007199254740991 ≤ n) (h2 : n ≤ 9007199254740991) (w : World) :
    Calls Tryd.prog 93 #[.int .i64 n] w fun e w' => e = .returned (.tuple #[vv 3 n, .bool true]) ∧ Below w.heap.size w w' := by
  go_enter Tryd.func93, Tryd.ntmps93
  go_wp2_with (go_at_call 100; refine (integer_any _ _).mono ?_; rintro e w' ⟨rfl, rfl⟩)
  exact bodyPost_ret (v := .tuple #[vv 3 n, .bool true]) (by simp [results, Tryd.results93, go_sem]) rfl ⟨rfl, by repeat (first | (with_reducible refine blw_alloc _ ?_) | (with_reducible refine Below.drew ?_) | (with_reducible exact Below.refl _ _))⟩
theorem int_out (n : Int) (h1 : n < -9007199254740991 ∨ 9007199254740991 < n) (w : World) :
    Calls Tryd.prog 93 #[.int .i64 n] w fun e w' => e = .returned (.tuple #[vv 0 0, .bool false]) ∧ Below w.heap.size w w' := by
  rcases h1 with h1 | h1
  all_goals
    go_enter Tryd.func93, Tryd.ntmps93
    go_wp2_with (go_at_call 100; refine (integer_any _ _).mono ?_; rintro e w' ⟨rfl, rfl⟩)
    exact bodyPost_ret (v := .tuple #[vv 0 0, .bool false]) (by simp [results, Tryd.results93, go_sem]) rfl ⟨rfl, by repeat (first | (with_reducible refine blw_alloc _ ?_) | (with_reducible refine Below.drew ?_) | (with_reducible exact Below.refl _ _))⟩

/-- The opposite number. -/
def negK (k n : Int) : Int := if k = 6 then 3 else if k = 3 then (if n = 0 then 6 else 3) else k
def negN (k n : Int) : Int := if k = 3 then -n else if k = 5 then -n else 0
theorem neg_any (k n : Int) (h : Num k n) (w : World) :
    Calls Tryd.prog 94 #[vv k n] w fun e w' => e = .returned (vv (negK k n) (negN k n)) ∧ Below w.heap.size w w' := by
  have key : ∀ a b, negK k n = a → negN k n = b → (Calls Tryd.prog 94 #[vv k n] w fun e w' => e = .returned (vv a b) ∧ Below w.heap.size w w') → Calls Tryd.prog 94 #[vv k n] w fun e w' => e = .returned (vv (negK k n) (negN k n)) ∧ Below w.heap.size w w' := by
    rintro a b rfl rfl h; exact h
  rcases h with ⟨rfl, rfl⟩ | ⟨rfl, rfl⟩ | ⟨rfl, rfl⟩ | ⟨rfl, rfl⟩ | ⟨rfl, h1, h2⟩
  · refine key 4 0 rfl rfl ?_; clear key
    go_enter Tryd.func94, Tryd.ntmps94
    go_wp2_with (go_at_call 100; refine (integer_any _ _).mono ?_; rintro e w' ⟨rfl, rfl⟩)
    exact bodyPost_ret (v := vv 4 0) (by simp [results, Tryd.results94, go_sem]) rfl ⟨rfl, by repeat (first | (with_reducible refine blw_alloc _ ?_) | (with_reducible refine Below.drew ?_) | (with_reducible exact Below.refl _ _))⟩
  · refine key 5 (-1) rfl rfl ?_; clear key
    go_enter Tryd.func94, Tryd.ntmps94
    go_wp2_with (go_at_call 100; refine (integer_any _ _).mono ?_; rintro e w' ⟨rfl, rfl⟩)
    exact bodyPost_ret (v := vv 5 (-1)) (by simp [results, Tryd.results94, go_sem]) rfl ⟨rfl, by repeat (first | (with_reducible refine blw_alloc _ ?_) | (with_reducible refine Below.drew ?_) | (with_reducible exact Below.refl _ _))⟩
  · refine key 5 1 rfl rfl ?_; clear key
    go_enter Tryd.func94, Tryd.ntmps94
    go_wp2_with (go_at_call 100; refine (integer_any _ _).mono ?_; rintro e w' ⟨rfl, rfl⟩)
    exact bodyPost_ret (v := vv 5 1) (by simp [results, Tryd.results94, go_sem]) rfl ⟨rfl, by repeat (first | (with_reducible refine blw_alloc _ ?_) | (with_reducible refine Below.drew ?_) | (with_reducible exact Below.refl _ _))⟩
  · refine key 3 0 rfl rfl ?_; clear key
    go_enter Tryd.func94, Tryd.ntmps94
    go_wp2_with (go_at_call 100; refine (integer_any _ _).mono ?_; rintro e w' ⟨rfl, rfl⟩)
    exact bodyPost_ret (v := vv 3 0) (by simp [results, Tryd.results94, go_sem]) rfl ⟨rfl, by repeat (first | (with_reducible refine blw_alloc _ ?_) | (with_reducible refine Below.drew ?_) | (with_reducible exact Below.refl _ _))⟩
  · by_cases hn : n = 0
    · subst hn
      refine key 6 0 rfl rfl ?_; clear key
      go_enter Tryd.func94, Tryd.ntmps94
      go_wp2_with (go_at_call 100; refine (integer_any _ _).mono ?_; rintro e w' ⟨rfl, rfl⟩)
      exact bodyPost_ret (v := vv 6 0) (by simp [results, Tryd.results94, go_sem]) rfl ⟨rfl, by repeat (first | (with_reducible refine blw_alloc _ ?_) | (with_reducible refine Below.drew ?_) | (with_reducible exact Below.refl _ _))⟩
    · refine key 3 (-n) (by simp [negK, hn]) (by simp [negN]) ?_; clear key
      have hn0 : (n == 0) = false := by simpa using hn
      go_enter Tryd.func94, Tryd.ntmps94
      go_wp2_with (go_at_call 100; refine (integer_any _ _).mono ?_; rintro e w' ⟨rfl, rfl⟩)
      exact bodyPost_ret (v := vv 3 (-n)) (by simp [results, Tryd.results94, go_sem]) rfl ⟨rfl, by repeat (first | (with_reducible refine blw_alloc _ ?_) | (with_reducible refine Below.drew ?_) | (with_reducible exact Below.refl _ _))⟩

/-- The place of a number among all numbers but NaN. -/
def rk (k n : Int) : Int := if k = 5 then n * 9007199254740992 else n
theorem rank_any (k n : Int) (h : Num k n) (w : World) :
    Calls Tryd.prog 67 #[vv k n] w fun e w' => e = .returned (.int .i64 (rk k n)) ∧ w.alloc (bx k n) = w' := by
  rcases h with ⟨rfl, rfl⟩ | ⟨rfl, rfl⟩ | ⟨rfl, rfl⟩ | ⟨rfl, rfl⟩ | ⟨rfl, h1, h2⟩
  all_goals
    go_enter Tryd.func67, Tryd.ntmps67
    go_wp2
    go_ret
    exact ⟨rfl, rfl⟩
end Go.Proofs.YtbkgophgclpijaaDoor.M
