/- Conversions to numbers and truth: the program's and the reference's. -/
import Derived.Test.YtbkgophgclpijaaDoorEe
namespace Go.Proofs.YtbkgophgclpijaaDoor
open Go.RowKit

def numberT (x : Vt) : Vt × Int :=
  if 3 ≤ x.1 ∧ x.1 ≤ 6 then (x, 0) else if x.1 = 0 then ((4, 0, W.e0), 0) else if x.1 = 1 then ((3, 0, W.e0), 0) else if x.1 = 2 then ((3, x.2.1, W.e0), 0) else if x.1 = 8 then ((0, 0, W.e0), 1) else ((0, 0, W.e0), 2)
/-- The ways of a value as one may be. -/
theorem wv_ways {k n : Int} {s : ByteArray} (h : WV k n s) :
    (k = 0 ∧ n = 0 ∧ s = W.e0) ∨ (k = 1 ∧ n = 0 ∧ s = W.e0) ∨ (k = 10 ∧ n = 0 ∧ s = W.e0) ∨ (k = 2 ∧ n = 0 ∧ s = W.e0) ∨ (k = 2 ∧ n = 1 ∧ s = W.e0) ∨
    (k = 4 ∧ n = 0 ∧ s = W.e0) ∨ (k = 5 ∧ n = 1 ∧ s = W.e0) ∨ (k = 5 ∧ n = -1 ∧ s = W.e0) ∨ (k = 6 ∧ n = 0 ∧ s = W.e0) ∨ (k = 3 ∧ (-9007199254740991 ≤ n ∧ n ≤ 9007199254740991) ∧ s = W.e0) ∨
    (k = 7 ∧ n = 0 ∧ ∃ l : List Nat, (∀ u ∈ l, u < 65536) ∧ l.length ≤ 2000 ∧ s = ⟨(l.flatMap W.u2).toArray⟩) ∨ (k = 8 ∧ (1 ≤ n ∧ n ≤ 64) ∧ s = W.e0) ∨ (k = 9 ∧ (1 ≤ n ∧ n ≤ 64) ∧ s = W.e0) := by
  rcases h with ⟨h1 | h1 | h1, h2, h3⟩ | ⟨h1, h2 | h2, h3⟩ | ⟨h1, h2⟩ | ⟨h1, h2, h3⟩ | ⟨h1 | h1, h2, h3, h4⟩
  · exact .inl ⟨h1, h2, h3⟩
  · exact .inr (.inl ⟨h1, h2, h3⟩)
  · exact .inr (.inr (.inl ⟨h1, h2, h3⟩))
  · exact .inr (.inr (.inr (.inl ⟨h1, h2, h3⟩)))
  · exact .inr (.inr (.inr (.inr (.inl ⟨h1, h2, h3⟩))))
  · rcases h1 with ⟨h1, h3⟩ | ⟨h1, h3⟩ | ⟨h1, h3⟩ | ⟨h1, h3⟩ | ⟨h1, h3, h4⟩
    · exact .inr (.inr (.inr (.inr (.inr (.inl ⟨h1, h3, h2⟩)))))
    · exact .inr (.inr (.inr (.inr (.inr (.inr (.inl ⟨h1, h3, h2⟩))))))
    · exact .inr (.inr (.inr (.inr (.inr (.inr (.inr (.inl ⟨h1, h3, h2⟩)))))))
    · exact .inr (.inr (.inr (.inr (.inr (.inr (.inr (.inr (.inl ⟨h1, h3, h2⟩))))))))
    · exact .inr (.inr (.inr (.inr (.inr (.inr (.inr (.inr (.inr (.inl ⟨h1, ⟨h3, h4⟩, h2⟩)))))))))
  · exact .inr (.inr (.inr (.inr (.inr (.inr (.inr (.inr (.inr (.inr (.inl ⟨h1, h2, h3⟩))))))))))
  · exact .inr (.inr (.inr (.inr (.inr (.inr (.inr (.inr (.inr (.inr (.inr (.inl ⟨h1, ⟨h2, h3⟩, h4⟩)))))))))))
  · exact .inr (.inr (.inr (.inr (.inr (.inr (.inr (.inr (.inr (.inr (.inr (.inr ⟨h1, ⟨h2, h3⟩, h4⟩)))))))))))

theorem is_no_eq (k n : Int) (s : ByteArray) (hk : ¬ (3 ≤ k ∧ k ≤ 6)) (w : World) : Calls Tryd.prog 46 #[W.V k n s] w fun e w' => e = .returned (.bool false) ∧ w.alloc (.cells #[.int .i64 k, .int .i64 n, .string s] 27) = w' := by
  obtain ⟨h3, h4, h5, h6⟩ := not_num hk
  clear hk
  go_enter Tryd.func46, Tryd.ntmps46
  go_wp2
  go_ret
  exact ⟨rfl, rfl⟩
set_option maxRecDepth 100000 in
set_option maxHeartbeats 2000000 in
theorem number_any (x : Vt) (hx : WV x.1 x.2.1 x.2.2) (w : World) : Calls Tryd.prog 21 #[valV x] w fun e w' => e = .returned (.tuple #[valV (numberT x).1, .int .i64 (numberT x).2]) ∧ Below w.heap.size w w' := by
  obtain ⟨k, n, s⟩ := x
  simp only at hx
  by_cases h : 3 ≤ k ∧ k ≤ 6
  · have e : numberT (k, n, s) = ((k, n, s), 0) := if_pos h
    obtain ⟨hn, rfl⟩ := wv_num hx h
    rw [e]
    have ix := Veil.mk (M.is_any k n hn)
    clear e hx hn h
    go_enter Tryd.func21, Tryd.ntmps21
    go_wp2_with (first | (go_at_call 46; ((with_reducible refine (ix.out _).mono ?_); rintro e w' ⟨rfl, rfl⟩)))
    refine bodyPost_ret (v := .tuple #[W.V k n W.e0, .int .i64 0]) (by simp [results, Tryd.results21, go_sem]) rfl ⟨rfl, ?_⟩
    repeat (first | (with_reducible exact Below.refl _ _) | (refine Below.setCell ?_ (by simp; done) _) | (refine Below.alloc ?_ (by first | (exact Nat.le_refl _) | (simp; done) | (simp; omega)) _))
  have ix := Veil.mk (is_no_eq k n s h)
  have HN := Lib.hid h
  clear h
  rcases wv_ways hx with ⟨rfl, rfl, rfl⟩ | ⟨rfl, rfl, rfl⟩ | ⟨rfl, rfl, rfl⟩ | ⟨rfl, rfl, rfl⟩ | ⟨rfl, rfl, rfl⟩ | ⟨rfl, rfl, rfl⟩ | ⟨rfl, rfl, rfl⟩ | ⟨rfl, rfl, rfl⟩ | ⟨rfl, rfl, rfl⟩ | ⟨rfl, _, rfl⟩ | ⟨rfl, rfl, _⟩ | ⟨rfl, _, rfl⟩ | ⟨rfl, _, rfl⟩
  · go_enter Tryd.func21, Tryd.ntmps21
    go_wp2_with (first | (go_at_call 46; ((with_reducible refine (ix.out _).mono ?_); rintro e w' ⟨rfl, rfl⟩)))
    refine bodyPost_ret (v := .tuple #[W.V 4 0 W.e0, .int .i64 0]) (by simp [results, Tryd.results21, go_sem]) rfl ⟨rfl, ?_⟩
    repeat (first | (with_reducible exact Below.refl _ _) | (refine Below.setCell ?_ (by simp; done) _) | (refine Below.alloc ?_ (by first | (exact Nat.le_refl _) | (simp; done) | (simp; omega)) _))
  · go_enter Tryd.func21, Tryd.ntmps21
    go_wp2_with (first | (go_at_call 46; ((with_reducible refine (ix.out _).mono ?_); rintro e w' ⟨rfl, rfl⟩)))
    refine bodyPost_ret (v := .tuple #[W.V 3 0 W.e0, .int .i64 0]) (by simp [results, Tryd.results21, go_sem]) rfl ⟨rfl, ?_⟩
    repeat (first | (with_reducible exact Below.refl _ _) | (refine Below.setCell ?_ (by simp; done) _) | (refine Below.alloc ?_ (by first | (exact Nat.le_refl _) | (simp; done) | (simp; omega)) _))
  · go_enter Tryd.func21, Tryd.ntmps21
    go_wp2_with (first | (go_at_call 46; ((with_reducible refine (ix.out _).mono ?_); rintro e w' ⟨rfl, rfl⟩)))
    refine bodyPost_ret (v := .tuple #[W.V 0 0 W.e0, .int .i64 2]) (by simp [results, Tryd.results21, go_sem]) rfl ⟨rfl, ?_⟩
    repeat (first | (with_reducible exact Below.refl _ _) | (refine Below.setCell ?_ (by simp; done) _) | (refine Below.alloc ?_ (by first | (exact Nat.le_refl _) | (simp; done) | (simp; omega)) _))
  · go_enter Tryd.func21, Tryd.ntmps21
    go_wp2_with (first | (go_at_call 46; ((with_reducible refine (ix.out _).mono ?_); rintro e w' ⟨rfl, rfl⟩)))
    refine bodyPost_ret (v := .tuple #[W.V 3 0 W.e0, .int .i64 0]) (by simp [results, Tryd.results21, go_sem]) rfl ⟨rfl, ?_⟩
    repeat (first | (with_reducible exact Below.refl _ _) | (refine Below.setCell ?_ (by simp; done) _) | (refine Below.alloc ?_ (by first | (exact Nat.le_refl _) | (simp; done) | (simp; omega)) _))
  · go_enter Tryd.func21, Tryd.ntmps21
    go_wp2_with (first | (go_at_call 46; ((with_reducible refine (ix.out _).mono ?_); rintro e w' ⟨rfl, rfl⟩)))
    refine bodyPost_ret (v := .tuple #[W.V 3 1 W.e0, .int .i64 0]) (by simp [results, Tryd.results21, go_sem]) rfl ⟨rfl, ?_⟩
    repeat (first | (with_reducible exact Below.refl _ _) | (refine Below.setCell ?_ (by simp; done) _) | (refine Below.alloc ?_ (by first | (exact Nat.le_refl _) | (simp; done) | (simp; omega)) _))
  · exact absurd ⟨by omega, by omega⟩ HN.out
  · exact absurd ⟨by omega, by omega⟩ HN.out
  · exact absurd ⟨by omega, by omega⟩ HN.out
  · exact absurd ⟨by omega, by omega⟩ HN.out
  · exact absurd ⟨by omega, by omega⟩ HN.out
  · go_enter Tryd.func21, Tryd.ntmps21
    go_wp2_with (first | (go_at_call 46; ((with_reducible refine (ix.out _).mono ?_); rintro e w' ⟨rfl, rfl⟩)))
    refine bodyPost_ret (v := .tuple #[W.V 0 0 W.e0, .int .i64 2]) (by simp [results, Tryd.results21, go_sem]) rfl ⟨rfl, ?_⟩
    repeat (first | (with_reducible exact Below.refl _ _) | (refine Below.setCell ?_ (by simp; done) _) | (refine Below.alloc ?_ (by first | (exact Nat.le_refl _) | (simp; done) | (simp; omega)) _))
  · go_enter Tryd.func21, Tryd.ntmps21
    go_wp2_with (first | (go_at_call 46; ((with_reducible refine (ix.out _).mono ?_); rintro e w' ⟨rfl, rfl⟩)))
    refine bodyPost_ret (v := .tuple #[W.V 0 0 W.e0, .int .i64 1]) (by simp [results, Tryd.results21, go_sem]) rfl ⟨rfl, ?_⟩
    repeat (first | (with_reducible exact Below.refl _ _) | (refine Below.setCell ?_ (by simp; done) _) | (refine Below.alloc ?_ (by first | (exact Nat.le_refl _) | (simp; done) | (simp; omega)) _))
  · go_enter Tryd.func21, Tryd.ntmps21
    go_wp2_with (first | (go_at_call 46; ((with_reducible refine (ix.out _).mono ?_); rintro e w' ⟨rfl, rfl⟩)))
    refine bodyPost_ret (v := .tuple #[W.V 0 0 W.e0, .int .i64 2]) (by simp [results, Tryd.results21, go_sem]) rfl ⟨rfl, ?_⟩
    repeat (first | (with_reducible exact Below.refl _ _) | (refine Below.setCell ?_ (by simp; done) _) | (refine Below.alloc ?_ (by first | (exact Nat.le_refl _) | (simp; done) | (simp; omega)) _))

theorem rnum_eq_no (k n : Int) (s : ByteArray) (hk : ¬ (3 ≤ k ∧ k ≤ 6)) (w : World) : Calls Tryd.prog 48 #[W.V k n s] w fun e w' => e = .returned (.bool false) ∧ w.alloc (.cells #[.int .i64 k, .int .i64 n, .string s] 27) = w' := by
  obtain ⟨h3, h4, h5, h6⟩ := not_num hk
  clear hk
  go_enter Tryd.func48, Tryd.ntmps48
  go_wp2
  go_ret
  exact ⟨rfl, rfl⟩
theorem rnum_eq_yes (k n : Int) (s : ByteArray) (h : 3 ≤ k ∧ k ≤ 6) (w : World) : Calls Tryd.prog 48 #[W.V k n s] w fun e w' => e = .returned (.bool true) ∧ w.alloc (.cells #[.int .i64 k, .int .i64 n, .string s] 27) = w' := by
  rcases (show k = 3 ∨ k = 4 ∨ k = 5 ∨ k = 6 by omega) with rfl | rfl | rfl | rfl
  all_goals
    go_enter Tryd.func48, Tryd.ntmps48
    go_wp2
    go_ret
    exact ⟨rfl, rfl⟩

set_option maxRecDepth 100000 in
set_option maxHeartbeats 2000000 in
theorem rnumber_any (x : Vt) (hx : WV x.1 x.2.1 x.2.2) (w : World) : Calls Tryd.prog 22 #[valV x] w fun e w' => e = .returned (.tuple #[valV (numberT x).1, .int .i64 (numberT x).2]) ∧ Below w.heap.size w w' := by
  obtain ⟨k, n, s⟩ := x
  simp only at hx
  rcases wv_ways hx with ⟨rfl, rfl, rfl⟩ | ⟨rfl, rfl, rfl⟩ | ⟨rfl, rfl, rfl⟩ | ⟨rfl, rfl, rfl⟩ | ⟨rfl, rfl, rfl⟩ | ⟨rfl, rfl, rfl⟩ | ⟨rfl, rfl, rfl⟩ | ⟨rfl, rfl, rfl⟩ | ⟨rfl, rfl, rfl⟩ | ⟨rfl, _, rfl⟩ | ⟨rfl, rfl, _⟩ | ⟨rfl, _, rfl⟩ | ⟨rfl, _, rfl⟩
  · go_enter Tryd.func22, Tryd.ntmps22
    go_wp2_with fail
    refine bodyPost_ret (v := .tuple #[W.V 4 0 W.e0, .int .i64 0]) (by simp [results, Tryd.results22, go_sem]) rfl ⟨rfl, ?_⟩
    repeat (first | (with_reducible exact Below.refl _ _) | (refine Below.setCell ?_ (by simp; done) _) | (refine Below.alloc ?_ (by first | (exact Nat.le_refl _) | (simp; done) | (simp; omega)) _))
  · go_enter Tryd.func22, Tryd.ntmps22
    go_wp2_with fail
    refine bodyPost_ret (v := .tuple #[W.V 3 0 W.e0, .int .i64 0]) (by simp [results, Tryd.results22, go_sem]) rfl ⟨rfl, ?_⟩
    repeat (first | (with_reducible exact Below.refl _ _) | (refine Below.setCell ?_ (by simp; done) _) | (refine Below.alloc ?_ (by first | (exact Nat.le_refl _) | (simp; done) | (simp; omega)) _))
  · go_enter Tryd.func22, Tryd.ntmps22
    go_wp2_with (first | (go_at_call 48; ((with_reducible refine (rnum_eq_no _ _ _ (by omega) _).mono ?_); rintro e w' ⟨rfl, rfl⟩)))
    refine bodyPost_ret (v := .tuple #[W.V 0 0 W.e0, .int .i64 2]) (by simp [results, Tryd.results22, go_sem]) rfl ⟨rfl, ?_⟩
    repeat (first | (with_reducible exact Below.refl _ _) | (refine Below.setCell ?_ (by simp; done) _) | (refine Below.alloc ?_ (by first | (exact Nat.le_refl _) | (simp; done) | (simp; omega)) _))
  · go_enter Tryd.func22, Tryd.ntmps22
    go_wp2_with fail
    refine bodyPost_ret (v := .tuple #[W.V 3 0 W.e0, .int .i64 0]) (by simp [results, Tryd.results22, go_sem]) rfl ⟨rfl, ?_⟩
    repeat (first | (with_reducible exact Below.refl _ _) | (refine Below.setCell ?_ (by simp; done) _) | (refine Below.alloc ?_ (by first | (exact Nat.le_refl _) | (simp; done) | (simp; omega)) _))
  · go_enter Tryd.func22, Tryd.ntmps22
    go_wp2_with fail
    refine bodyPost_ret (v := .tuple #[W.V 3 1 W.e0, .int .i64 0]) (by simp [results, Tryd.results22, go_sem]) rfl ⟨rfl, ?_⟩
    repeat (first | (with_reducible exact Below.refl _ _) | (refine Below.setCell ?_ (by simp; done) _) | (refine Below.alloc ?_ (by first | (exact Nat.le_refl _) | (simp; done) | (simp; omega)) _))
  · go_enter Tryd.func22, Tryd.ntmps22
    go_wp2_with (first | (go_at_call 48; ((with_reducible refine (rnum_eq_yes _ _ _ (by omega) _).mono ?_); rintro e w' ⟨rfl, rfl⟩)))
    refine bodyPost_ret (v := .tuple #[W.V 4 0 W.e0, .int .i64 0]) (by simp [results, Tryd.results22, go_sem]) rfl ⟨rfl, ?_⟩
    repeat (first | (with_reducible exact Below.refl _ _) | (refine Below.setCell ?_ (by simp; done) _) | (refine Below.alloc ?_ (by first | (exact Nat.le_refl _) | (simp; done) | (simp; omega)) _))
  · go_enter Tryd.func22, Tryd.ntmps22
    go_wp2_with (first | (go_at_call 48; ((with_reducible refine (rnum_eq_yes _ _ _ (by omega) _).mono ?_); rintro e w' ⟨rfl, rfl⟩)))
    refine bodyPost_ret (v := .tuple #[W.V 5 1 W.e0, .int .i64 0]) (by simp [results, Tryd.results22, go_sem]) rfl ⟨rfl, ?_⟩
    repeat (first | (with_reducible exact Below.refl _ _) | (refine Below.setCell ?_ (by simp; done) _) | (refine Below.alloc ?_ (by first | (exact Nat.le_refl _) | (simp; done) | (simp; omega)) _))
  · go_enter Tryd.func22, Tryd.ntmps22
    go_wp2_with (first | (go_at_call 48; ((with_reducible refine (rnum_eq_yes _ _ _ (by omega) _).mono ?_); rintro e w' ⟨rfl, rfl⟩)))
    refine bodyPost_ret (v := .tuple #[W.V 5 (-1) W.e0, .int .i64 0]) (by simp [results, Tryd.results22, go_sem]) rfl ⟨rfl, ?_⟩
    repeat (first | (with_reducible exact Below.refl _ _) | (refine Below.setCell ?_ (by simp; done) _) | (refine Below.alloc ?_ (by first | (exact Nat.le_refl _) | (simp; done) | (simp; omega)) _))
  · go_enter Tryd.func22, Tryd.ntmps22
    go_wp2_with (first | (go_at_call 48; ((with_reducible refine (rnum_eq_yes _ _ _ (by omega) _).mono ?_); rintro e w' ⟨rfl, rfl⟩)))
    refine bodyPost_ret (v := .tuple #[W.V 6 0 W.e0, .int .i64 0]) (by simp [results, Tryd.results22, go_sem]) rfl ⟨rfl, ?_⟩
    repeat (first | (with_reducible exact Below.refl _ _) | (refine Below.setCell ?_ (by simp; done) _) | (refine Below.alloc ?_ (by first | (exact Nat.le_refl _) | (simp; done) | (simp; omega)) _))
  · go_enter Tryd.func22, Tryd.ntmps22
    go_wp2_with (first | (go_at_call 48; ((with_reducible refine (rnum_eq_yes _ _ _ (by omega) _).mono ?_); rintro e w' ⟨rfl, rfl⟩)))
    refine bodyPost_ret (v := .tuple #[W.V 3 n W.e0, .int .i64 0]) (by simp [results, Tryd.results22, go_sem]) rfl ⟨rfl, ?_⟩
    repeat (first | (with_reducible exact Below.refl _ _) | (refine Below.setCell ?_ (by simp; done) _) | (refine Below.alloc ?_ (by first | (exact Nat.le_refl _) | (simp; done) | (simp; omega)) _))
  · go_enter Tryd.func22, Tryd.ntmps22
    go_wp2_with (first | (go_at_call 48; ((with_reducible refine (rnum_eq_no _ _ _ (by omega) _).mono ?_); rintro e w' ⟨rfl, rfl⟩)))
    refine bodyPost_ret (v := .tuple #[W.V 0 0 W.e0, .int .i64 2]) (by simp [results, Tryd.results22, go_sem]) rfl ⟨rfl, ?_⟩
    repeat (first | (with_reducible exact Below.refl _ _) | (refine Below.setCell ?_ (by simp; done) _) | (refine Below.alloc ?_ (by first | (exact Nat.le_refl _) | (simp; done) | (simp; omega)) _))
  · go_enter Tryd.func22, Tryd.ntmps22
    go_wp2_with fail
    refine bodyPost_ret (v := .tuple #[W.V 0 0 W.e0, .int .i64 1]) (by simp [results, Tryd.results22, go_sem]) rfl ⟨rfl, ?_⟩
    repeat (first | (with_reducible exact Below.refl _ _) | (refine Below.setCell ?_ (by simp; done) _) | (refine Below.alloc ?_ (by first | (exact Nat.le_refl _) | (simp; done) | (simp; omega)) _))
  · go_enter Tryd.func22, Tryd.ntmps22
    go_wp2_with (first | (go_at_call 48; ((with_reducible refine (rnum_eq_no _ _ _ (by omega) _).mono ?_); rintro e w' ⟨rfl, rfl⟩)))
    refine bodyPost_ret (v := .tuple #[W.V 0 0 W.e0, .int .i64 2]) (by simp [results, Tryd.results22, go_sem]) rfl ⟨rfl, ?_⟩
    repeat (first | (with_reducible exact Below.refl _ _) | (refine Below.setCell ?_ (by simp; done) _) | (refine Below.alloc ?_ (by first | (exact Nat.le_refl _) | (simp; done) | (simp; omega)) _))

def trueT (x : Vt) : Bool := if x.1 = 2 ∨ x.1 = 3 then !(x.2.1 == 0) else if x.1 = 7 then decide (0 < x.2.2.size) else decide (x.1 = 5 ∨ x.1 = 8 ∨ x.1 = 9)
set_option maxRecDepth 100000 in
theorem true_any (x : Vt) (hx : WV x.1 x.2.1 x.2.2) (w : World) : Calls Tryd.prog 26 #[valV x] w fun e w' => e = .returned (.bool (trueT x)) ∧ Below w.heap.size w w' := by
  obtain ⟨k, n, s⟩ := x
  simp only at hx
  have hB : ∀ o, Below w.heap.size w (w.alloc o) := fun o => (Below.refl _ _).alloc (Nat.le_refl _) _
  rcases wv_ways hx with ⟨rfl, rfl, rfl⟩ | ⟨rfl, rfl, rfl⟩ | ⟨rfl, rfl, rfl⟩ | ⟨rfl, rfl, rfl⟩ | ⟨rfl, rfl, rfl⟩ | ⟨rfl, rfl, rfl⟩ | ⟨rfl, rfl, rfl⟩ | ⟨rfl, rfl, rfl⟩ | ⟨rfl, rfl, rfl⟩ | ⟨rfl, _, rfl⟩ | ⟨rfl, rfl, _⟩ | ⟨rfl, _, rfl⟩ | ⟨rfl, _, rfl⟩
  · go_enter Tryd.func26, Tryd.ntmps26
    go_wp2
    go_ret
    exact ⟨rfl, hB _⟩
  · go_enter Tryd.func26, Tryd.ntmps26
    go_wp2
    go_ret
    exact ⟨rfl, hB _⟩
  · go_enter Tryd.func26, Tryd.ntmps26
    go_wp2
    go_ret
    exact ⟨rfl, hB _⟩
  · go_enter Tryd.func26, Tryd.ntmps26
    go_wp2
    go_ret
    exact ⟨rfl, hB _⟩
  · go_enter Tryd.func26, Tryd.ntmps26
    go_wp2
    go_ret
    exact ⟨rfl, hB _⟩
  · go_enter Tryd.func26, Tryd.ntmps26
    go_wp2
    go_ret
    exact ⟨rfl, hB _⟩
  · go_enter Tryd.func26, Tryd.ntmps26
    go_wp2
    go_ret
    exact ⟨rfl, hB _⟩
  · go_enter Tryd.func26, Tryd.ntmps26
    go_wp2
    go_ret
    exact ⟨rfl, hB _⟩
  · go_enter Tryd.func26, Tryd.ntmps26
    go_wp2
    go_ret
    exact ⟨rfl, hB _⟩
  · by_cases h0 : n = 0
    · subst h0
      go_enter Tryd.func26, Tryd.ntmps26
      go_wp2
      go_ret
      exact ⟨rfl, hB _⟩
    · have h1 : (n == 0) = false := by simpa using h0
      have h2 : (n != 0) = true := by simpa using h0
      have HT : Hid (trueT (3, n, W.e0) = true) := by
        show _ = _
        have : trueT (3, n, W.e0) = !(n == 0) := rfl
        rw [this, h1]; rfl
      clear h0 hx
      go_enter Tryd.func26, Tryd.ntmps26
      go_wp2
      go_ret
      exact ⟨by rw [HT.out]; rfl, hB _⟩
  · by_cases h0 : s.size = 0
    · obtain rfl : s = W.e0 := by
        have : s.data = #[] := Array.eq_empty_of_size_eq_zero h0
        cases s; simp_all
      clear h0 hx
      go_enter Tryd.func26, Tryd.ntmps26
      go_wp2
      go_ret
      exact ⟨rfl, hB _⟩
    · have HT : Hid (trueT (7, 0, s) = true) := by
        show _ = _
        have : trueT (7, 0, s) = decide (0 < s.size) := rfl
        rw [this]; simp; omega
      have h1 : s.toList ≠ [] := by
        intro e
        apply h0
        have h9 : s.toList.length = 0 := by rw [e]; rfl
        have h8 : s.toList.length = s.size := by rw [ByteArray.toList_eq]; rfl
        omega
      have h2 : s.toList.isEmpty = false := by cases hh : s.toList with | nil => exact absurd hh h1 | cons a r => rfl
      have h3 : (0 : Int) < (s.size : Int) := by omega
      have h5 : 0 < s.size := by omega
      clear h0 hx h1
      go_enter Tryd.func26, Tryd.ntmps26
      go_wp2
      go_ret
      exact ⟨by rw [HT.out]; rfl, hB _⟩
  · go_enter Tryd.func26, Tryd.ntmps26
    go_wp2
    go_ret
    exact ⟨rfl, hB _⟩
  · go_enter Tryd.func26, Tryd.ntmps26
    go_wp2
    go_ret
    exact ⟨rfl, hB _⟩
set_option maxRecDepth 100000 in
theorem rtrue_any (x : Vt) (hx : WV x.1 x.2.1 x.2.2) (w : World) : Calls Tryd.prog 27 #[valV x] w fun e w' => e = .returned (.bool (trueT x)) ∧ Below w.heap.size w w' := by
  obtain ⟨k, n, s⟩ := x
  simp only at hx
  have hB : ∀ o, Below w.heap.size w (w.alloc o) := fun o => (Below.refl _ _).alloc (Nat.le_refl _) _
  rcases wv_ways hx with ⟨rfl, rfl, rfl⟩ | ⟨rfl, rfl, rfl⟩ | ⟨rfl, rfl, rfl⟩ | ⟨rfl, rfl, rfl⟩ | ⟨rfl, rfl, rfl⟩ | ⟨rfl, rfl, rfl⟩ | ⟨rfl, rfl, rfl⟩ | ⟨rfl, rfl, rfl⟩ | ⟨rfl, rfl, rfl⟩ | ⟨rfl, _, rfl⟩ | ⟨rfl, rfl, _⟩ | ⟨rfl, _, rfl⟩ | ⟨rfl, _, rfl⟩
  · go_enter Tryd.func27, Tryd.ntmps27
    go_wp2
    go_ret
    exact ⟨rfl, hB _⟩
  · go_enter Tryd.func27, Tryd.ntmps27
    go_wp2
    go_ret
    exact ⟨rfl, hB _⟩
  · go_enter Tryd.func27, Tryd.ntmps27
    go_wp2
    go_ret
    exact ⟨rfl, hB _⟩
  · go_enter Tryd.func27, Tryd.ntmps27
    go_wp2
    go_ret
    exact ⟨rfl, hB _⟩
  · go_enter Tryd.func27, Tryd.ntmps27
    go_wp2
    go_ret
    exact ⟨rfl, hB _⟩
  · go_enter Tryd.func27, Tryd.ntmps27
    go_wp2
    go_ret
    exact ⟨rfl, hB _⟩
  · go_enter Tryd.func27, Tryd.ntmps27
    go_wp2
    go_ret
    exact ⟨rfl, hB _⟩
  · go_enter Tryd.func27, Tryd.ntmps27
    go_wp2
    go_ret
    exact ⟨rfl, hB _⟩
  · go_enter Tryd.func27, Tryd.ntmps27
    go_wp2
    go_ret
    exact ⟨rfl, hB _⟩
  · by_cases h0 : n = 0
    · subst h0
      go_enter Tryd.func27, Tryd.ntmps27
      go_wp2
      go_ret
      exact ⟨rfl, hB _⟩
    · have h1 : (n == 0) = false := by simpa using h0
      have h2 : (n != 0) = true := by simpa using h0
      have HT : Hid (trueT (3, n, W.e0) = true) := by
        show _ = _
        have : trueT (3, n, W.e0) = !(n == 0) := rfl
        rw [this, h1]; rfl
      clear h0 hx
      go_enter Tryd.func27, Tryd.ntmps27
      go_wp2
      go_ret
      exact ⟨by rw [HT.out]; rfl, hB _⟩
  · by_cases h0 : s.size = 0
    · obtain rfl : s = W.e0 := by
        have : s.data = #[] := Array.eq_empty_of_size_eq_zero h0
        cases s; simp_all
      clear h0 hx
      go_enter Tryd.func27, Tryd.ntmps27
      go_wp2
      go_ret
      exact ⟨rfl, hB _⟩
    · have HT : Hid (trueT (7, 0, s) = true) := by
        show _ = _
        have : trueT (7, 0, s) = decide (0 < s.size) := rfl
        rw [this]; simp; omega
      have h1 : s.toList ≠ [] := by
        intro e
        apply h0
        have h9 : s.toList.length = 0 := by rw [e]; rfl
        have h8 : s.toList.length = s.size := by rw [ByteArray.toList_eq]; rfl
        omega
      have h2 : s.toList.isEmpty = false := by cases hh : s.toList with | nil => exact absurd hh h1 | cons a r => rfl
      have h3 : (0 : Int) < (s.size : Int) := by omega
      have h5 : 0 < s.size := by omega
      clear h0 hx h1
      go_enter Tryd.func27, Tryd.ntmps27
      go_wp2
      go_ret
      exact ⟨by rw [HT.out]; rfl, hB _⟩
  · go_enter Tryd.func27, Tryd.ntmps27
    go_wp2
    go_ret
    exact ⟨rfl, hB _⟩
  · go_enter Tryd.func27, Tryd.ntmps27
    go_wp2
    go_ret
    exact ⟨rfl, hB _⟩
end Go.Proofs.YtbkgophgclpijaaDoor
