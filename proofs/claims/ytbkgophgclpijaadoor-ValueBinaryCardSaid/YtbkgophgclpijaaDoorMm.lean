/- The contracts of the reference's Of, Val, Rem and Do. -/
import Derived.Test.YtbkgophgclpijaaDoorMl
import Derived.RegionTactic
import Derived.BigRegion
namespace Go.Proofs.YtbkgophgclpijaaDoor.M
open Go.RowKit


theorem of_nan  (w : World) :
    Calls Tryd.prog 43 #[vv 4 0] w fun e w' => e = .returned (nv 110 false 0) ∧ Below w.heap.size w w' := by
  go_enter Tryd.func43, Tryd.ntmps43
  go_wp2
  all_goals exact bodyPost_ret (v := nv 110 false 0) (by simp [results, Tryd.results43, go_sem]) rfl ⟨rfl, by repeat (first | (with_reducible refine blw_alloc _ ?_) | (with_reducible refine Below.drew ?_) | (with_reducible refine blw_put _ (by omega) ?_) | (with_reducible refine blw_drewN ?_ _) | (with_reducible exact Below.refl _ _))⟩

theorem of_inf  (w : World) :
    Calls Tryd.prog 43 #[vv 5 1] w fun e w' => e = .returned (nv 105 false 0) ∧ Below w.heap.size w w' := by
  go_enter Tryd.func43, Tryd.ntmps43
  go_wp2
  all_goals exact bodyPost_ret (v := nv 105 false 0) (by simp [results, Tryd.results43, go_sem]) rfl ⟨rfl, by repeat (first | (with_reducible refine blw_alloc _ ?_) | (with_reducible refine Below.drew ?_) | (with_reducible refine blw_put _ (by omega) ?_) | (with_reducible refine blw_drewN ?_ _) | (with_reducible exact Below.refl _ _))⟩

theorem of_minf  (w : World) :
    Calls Tryd.prog 43 #[vv 5 (-1)] w fun e w' => e = .returned (nv 105 true 0) ∧ Below w.heap.size w w' := by
  go_enter Tryd.func43, Tryd.ntmps43
  go_wp2
  all_goals exact bodyPost_ret (v := nv 105 true 0) (by simp [results, Tryd.results43, go_sem]) rfl ⟨rfl, by repeat (first | (with_reducible refine blw_alloc _ ?_) | (with_reducible refine Below.drew ?_) | (with_reducible refine blw_put _ (by omega) ?_) | (with_reducible refine blw_drewN ?_ _) | (with_reducible exact Below.refl _ _))⟩

theorem of_nz  (w : World) :
    Calls Tryd.prog 43 #[vv 6 0] w fun e w' => e = .returned (nv 119 true 0) ∧ Below w.heap.size w w' := by
  go_enter Tryd.func43, Tryd.ntmps43
  go_wp2
  all_goals exact bodyPost_ret (v := nv 119 true 0) (by simp [results, Tryd.results43, go_sem]) rfl ⟨rfl, by repeat (first | (with_reducible refine blw_alloc _ ?_) | (with_reducible refine Below.drew ?_) | (with_reducible refine blw_put _ (by omega) ?_) | (with_reducible refine blw_drewN ?_ _) | (with_reducible exact Below.refl _ _))⟩

theorem of_neg (n : Int) (_h : n < 0) (_g : -9007199254740991 ≤ n) (w : World) :
    Calls Tryd.prog 43 #[vv 3 n] w fun e w' => e = .returned (nv 119 true (-n)) ∧ Below w.heap.size w w' := by
  go_enter Tryd.func43, Tryd.ntmps43
  go_wp2
  all_goals exact bodyPost_ret (v := nv 119 true (-n)) (by simp [results, Tryd.results43, go_sem]) rfl ⟨rfl, by repeat (first | (with_reducible refine blw_alloc _ ?_) | (with_reducible refine Below.drew ?_) | (with_reducible refine blw_put _ (by omega) ?_) | (with_reducible refine blw_drewN ?_ _) | (with_reducible exact Below.refl _ _))⟩

theorem of_pos (n : Int) (_h : 0 ≤ n) (w : World) :
    Calls Tryd.prog 43 #[vv 3 n] w fun e w' => e = .returned (nv 119 false n) ∧ Below w.heap.size w w' := by
  go_enter Tryd.func43, Tryd.ntmps43
  go_wp2
  all_goals exact bodyPost_ret (v := nv 119 false n) (by simp [results, Tryd.results43, go_sem]) rfl ⟨rfl, by repeat (first | (with_reducible refine blw_alloc _ ?_) | (with_reducible refine Below.drew ?_) | (with_reducible refine blw_put _ (by omega) ?_) | (with_reducible refine blw_drewN ?_ _) | (with_reducible exact Below.refl _ _))⟩

theorem val_nan  (w : World) :
    Calls Tryd.prog 63 #[nv 110 false 0] w fun e w' => e = .returned (vv 4 0) ∧ Below w.heap.size w w' := by
  go_enter Tryd.func63, Tryd.ntmps63
  go_wp2
  all_goals exact bodyPost_ret (v := vv 4 0) (by simp [results, Tryd.results63, go_sem]) rfl ⟨rfl, by repeat (first | (with_reducible refine blw_alloc _ ?_) | (with_reducible refine Below.drew ?_) | (with_reducible refine blw_put _ (by omega) ?_) | (with_reducible refine blw_drewN ?_ _) | (with_reducible exact Below.refl _ _))⟩

theorem val_inf  (w : World) :
    Calls Tryd.prog 63 #[nv 105 false 0] w fun e w' => e = .returned (vv 5 1) ∧ Below w.heap.size w w' := by
  go_enter Tryd.func63, Tryd.ntmps63
  go_wp2
  all_goals exact bodyPost_ret (v := vv 5 1) (by simp [results, Tryd.results63, go_sem]) rfl ⟨rfl, by repeat (first | (with_reducible refine blw_alloc _ ?_) | (with_reducible refine Below.drew ?_) | (with_reducible refine blw_put _ (by omega) ?_) | (with_reducible refine blw_drewN ?_ _) | (with_reducible exact Below.refl _ _))⟩

theorem val_minf  (w : World) :
    Calls Tryd.prog 63 #[nv 105 true 0] w fun e w' => e = .returned (vv 5 (-1)) ∧ Below w.heap.size w w' := by
  go_enter Tryd.func63, Tryd.ntmps63
  go_wp2
  all_goals exact bodyPost_ret (v := vv 5 (-1)) (by simp [results, Tryd.results63, go_sem]) rfl ⟨rfl, by repeat (first | (with_reducible refine blw_alloc _ ?_) | (with_reducible refine Below.drew ?_) | (with_reducible refine blw_put _ (by omega) ?_) | (with_reducible refine blw_drewN ?_ _) | (with_reducible exact Below.refl _ _))⟩

theorem val_nz  (w : World) :
    Calls Tryd.prog 63 #[nv 119 true 0] w fun e w' => e = .returned (vv 6 0) ∧ Below w.heap.size w w' := by
  go_enter Tryd.func63, Tryd.ntmps63
  go_wp2
  all_goals exact bodyPost_ret (v := vv 6 0) (by simp [results, Tryd.results63, go_sem]) rfl ⟨rfl, by repeat (first | (with_reducible refine blw_alloc _ ?_) | (with_reducible refine Below.drew ?_) | (with_reducible refine blw_put _ (by omega) ?_) | (with_reducible refine blw_drewN ?_ _) | (with_reducible exact Below.refl _ _))⟩

theorem val_neg (s : Int) (_h : 0 < s) (_hz : (s == 0) = false) (_g : s ≤ 9007199254740991) (w : World) :
    Calls Tryd.prog 63 #[nv 119 true s] w fun e w' => e = .returned (vv 3 (-s)) ∧ Below w.heap.size w w' := by
  go_enter Tryd.func63, Tryd.ntmps63
  go_wp2
  all_goals exact bodyPost_ret (v := vv 3 (-s)) (by simp [results, Tryd.results63, go_sem]) rfl ⟨rfl, by repeat (first | (with_reducible refine blw_alloc _ ?_) | (with_reducible refine Below.drew ?_) | (with_reducible refine blw_put _ (by omega) ?_) | (with_reducible refine blw_drewN ?_ _) | (with_reducible exact Below.refl _ _))⟩

theorem val_pos (s : Int) (_hz : (s == 0) = false) (w : World) :
    Calls Tryd.prog 63 #[nv 119 false s] w fun e w' => e = .returned (vv 3 s) ∧ Below w.heap.size w w' := by
  go_enter Tryd.func63, Tryd.ntmps63
  go_wp2
  all_goals exact bodyPost_ret (v := vv 3 s) (by simp [results, Tryd.results63, go_sem]) rfl ⟨rfl, by repeat (first | (with_reducible refine blw_alloc _ ?_) | (with_reducible refine Below.drew ?_) | (with_reducible refine blw_put _ (by omega) ?_) | (with_reducible refine blw_drewN ?_ _) | (with_reducible exact Below.refl _ _))⟩

theorem val_zero  (w : World) :
    Calls Tryd.prog 63 #[nv 119 false 0] w fun e w' => e = .returned (vv 3 0) ∧ Below w.heap.size w w' := by
  go_enter Tryd.func63, Tryd.ntmps63
  go_wp2
  all_goals exact bodyPost_ret (v := vv 3 0) (by simp [results, Tryd.results63, go_sem]) rfl ⟨rfl, by repeat (first | (with_reducible refine blw_alloc _ ?_) | (with_reducible refine Below.drew ?_) | (with_reducible refine blw_put _ (by omega) ?_) | (with_reducible refine blw_drewN ?_ _) | (with_reducible exact Below.refl _ _))⟩

theorem rrem_n1 (k2 : Int) (m2 : Bool) (s2 : Int) (w : World) :
    Calls Tryd.prog 62 #[nv 110 false 0, nv k2 m2 s2] w fun e w' => e = .returned (nv 110 false 0) ∧ Below w.heap.size w w' := by
  go_enter Tryd.func62, Tryd.ntmps62
  go_wp2
  all_goals exact bodyPost_ret (v := nv 110 false 0) (by simp [results, Tryd.results62, go_sem]) rfl ⟨rfl, by repeat (first | (with_reducible refine blw_alloc _ ?_) | (with_reducible refine Below.drew ?_) | (with_reducible refine blw_put _ (by omega) ?_) | (with_reducible refine blw_drewN ?_ _) | (with_reducible exact Below.refl _ _))⟩

theorem rrem_i1 (k2 : Int) (m1 m2 : Bool) (s2 : Int) (w : World) :
    Calls Tryd.prog 62 #[nv 105 m1 0, nv k2 m2 s2] w fun e w' => e = .returned (nv 110 false 0) ∧ Below w.heap.size w w' := by
  go_enter Tryd.func62, Tryd.ntmps62
  go_wp2
  all_goals exact bodyPost_ret (v := nv 110 false 0) (by simp [results, Tryd.results62, go_sem]) rfl ⟨rfl, by repeat (first | (with_reducible refine blw_alloc _ ?_) | (with_reducible refine Below.drew ?_) | (with_reducible refine blw_put _ (by omega) ?_) | (with_reducible refine blw_drewN ?_ _) | (with_reducible exact Below.refl _ _))⟩

theorem rrem_n2 (m1 : Bool) (s1 : Int) (w : World) :
    Calls Tryd.prog 62 #[nv 119 m1 s1, nv 110 false 0] w fun e w' => e = .returned (nv 110 false 0) ∧ Below w.heap.size w w' := by
  go_enter Tryd.func62, Tryd.ntmps62
  go_wp2
  all_goals exact bodyPost_ret (v := nv 110 false 0) (by simp [results, Tryd.results62, go_sem]) rfl ⟨rfl, by repeat (first | (with_reducible refine blw_alloc _ ?_) | (with_reducible refine Below.drew ?_) | (with_reducible refine blw_put _ (by omega) ?_) | (with_reducible refine blw_drewN ?_ _) | (with_reducible exact Below.refl _ _))⟩

theorem rrem_z2 (m1 m2 : Bool) (s1 : Int) (w : World) :
    Calls Tryd.prog 62 #[nv 119 m1 s1, nv 119 m2 0] w fun e w' => e = .returned (nv 110 false 0) ∧ Below w.heap.size w w' := by
  go_enter Tryd.func62, Tryd.ntmps62
  go_wp2
  all_goals exact bodyPost_ret (v := nv 110 false 0) (by simp [results, Tryd.results62, go_sem]) rfl ⟨rfl, by repeat (first | (with_reducible refine blw_alloc _ ?_) | (with_reducible refine Below.drew ?_) | (with_reducible refine blw_put _ (by omega) ?_) | (with_reducible refine blw_drewN ?_ _) | (with_reducible exact Below.refl _ _))⟩

theorem rrem_i2 (m1 m2 : Bool) (s1 : Int) (w : World) :
    Calls Tryd.prog 62 #[nv 119 m1 s1, nv 105 m2 0] w fun e w' => e = .returned (nv 119 m1 s1) ∧ Below w.heap.size w w' := by
  go_enter Tryd.func62, Tryd.ntmps62
  go_wp2
  all_goals exact bodyPost_ret (v := nv 119 m1 s1) (by simp [results, Tryd.results62, go_sem]) rfl ⟨rfl, by repeat (first | (with_reducible refine blw_alloc _ ?_) | (with_reducible refine Below.drew ?_) | (with_reducible refine blw_put _ (by omega) ?_) | (with_reducible refine blw_drewN ?_ _) | (with_reducible exact Below.refl _ _))⟩

theorem rrem_ww (m1 m2 : Bool) (s1 : Int) (_h1 : 0 ≤ s1) (_g1 : s1 ≤ 9007199254740991) (s2 : Int) (_h2 : 0 ≤ s2) (_g2 : s2 ≤ 9007199254740991) (_hz : s2 ≠ 0) (_hzb : (s2 == 0) = false) (_hp : 0 < s2) (_hb : s1 / s2 * s2 ≤ 9007199254740991) (_hb0 : 0 ≤ s1 / s2 * s2) (_hq : 0 ≤ s1 / s2) (_hq2 : s1 / s2 ≤ 9007199254740991) (w : World) :
    Calls Tryd.prog 62 #[nv 119 m1 s1, nv 119 m2 s2] w fun e w' => e = .returned (nv 119 m1 (s1 - s1 / s2 * s2)) ∧ Below w.heap.size w w' := by
  have hw := IntWalk.i64_quo s1 s2 ⟨by omega, by omega, by omega⟩
  go_enter Tryd.func62, Tryd.ntmps62
  go_wp2
  go_region
  all_goals go_wp2
  all_goals exact bodyPost_ret (v := nv 119 m1 (s1 - s1 / s2 * s2)) (by simp [results, Tryd.results62, go_sem]) rfl ⟨rfl, by repeat (first | (with_reducible refine blw_alloc _ ?_) | (with_reducible refine Below.drew ?_) | (with_reducible refine blw_put _ (by omega) ?_) | (with_reducible refine blw_drewN ?_ _) | (with_reducible exact Below.refl _ _))⟩

set_option maxHeartbeats 800000 in
theorem do_add_n1 (k2 : Int) (m2 : Bool) (s2 : Int)  (w : World) :
    Calls Tryd.prog 64 #[.int .u8 43, nv 110 false 0, nv k2 m2 s2] w fun e w' => e = .returned (.tuple #[nv 110 false 0, .bool (true)]) ∧ Below w.heap.size w w' := by
  go_enter Tryd.func64, Tryd.ntmps64
  go_wp2_with fail
  all_goals exact bodyPost_ret (v := .tuple #[nv 110 false 0, .bool (true)]) (by simp [results, Tryd.results64, go_sem]) rfl ⟨rfl, by repeat (first | (with_reducible refine blw_alloc _ ?_) | (with_reducible refine Below.drew ?_) | (with_reducible refine blw_put _ (by omega) ?_) | (with_reducible refine blw_drewN ?_ _) | (with_reducible exact Below.refl _ _) | (with_reducible refine blw_call ?_ (by assumption)))⟩

set_option maxHeartbeats 800000 in
theorem do_add_n2 (k1 : Int) (m1 : Bool) (s1 : Int) (_h : (k1 == 110) = false)  (w : World) :
    Calls Tryd.prog 64 #[.int .u8 43, nv k1 m1 s1, nv 110 false 0] w fun e w' => e = .returned (.tuple #[nv 110 false 0, .bool (true)]) ∧ Below w.heap.size w w' := by
  go_enter Tryd.func64, Tryd.ntmps64
  go_wp2_with fail
  all_goals exact bodyPost_ret (v := .tuple #[nv 110 false 0, .bool (true)]) (by simp [results, Tryd.results64, go_sem]) rfl ⟨rfl, by repeat (first | (with_reducible refine blw_alloc _ ?_) | (with_reducible refine Below.drew ?_) | (with_reducible refine blw_put _ (by omega) ?_) | (with_reducible refine blw_drewN ?_ _) | (with_reducible exact Below.refl _ _) | (with_reducible refine blw_call ?_ (by assumption)))⟩

set_option maxHeartbeats 800000 in
theorem do_add (k1 k2 : Int) (m1 m2 : Bool) (s1 s2 : Int) (k : Int) (m : Bool) (s : Int) (o : Bool) (_h1 : (k1 == 110) = false) (_h2 : (k2 == 110) = false) (H : Hid (∀ w, Calls Tryd.prog 82 #[nv k1 m1 s1, nv k2 m2 s2] w fun e w' => e = .returned (.tuple #[nv k m s, .bool o]) ∧ Below w.heap.size w w')) (w : World) :
    Calls Tryd.prog 64 #[.int .u8 43, nv k1 m1 s1, nv k2 m2 s2] w fun e w' => e = .returned (.tuple #[nv k m s, .bool (o)]) ∧ Below w.heap.size w w' := by
  go_enter Tryd.func64, Tryd.ntmps64
  go_wp2_with (go_at_call 82; ((with_reducible refine (H.out _).mono ?_); rintro e w1 ⟨rfl, hb1⟩; obtain ⟨hcc, hff⟩ := bcell hb1; have hs1 := hb1.size; simp only [World.size_alloc] at hs1; have hz1 := blw_lt hs1))
  all_goals exact bodyPost_ret (v := .tuple #[nv k m s, .bool (o)]) (by simp [results, Tryd.results64, go_sem, hcc]) rfl ⟨rfl, by repeat (first | (with_reducible refine blw_alloc _ ?_) | (with_reducible refine Below.drew ?_) | (with_reducible refine blw_put _ (by omega) ?_) | (with_reducible refine blw_drewN ?_ _) | (with_reducible exact Below.refl _ _) | (with_reducible refine blw_call ?_ (by assumption)))⟩

set_option maxHeartbeats 800000 in
theorem do_sub_n1 (k2 : Int) (m2 : Bool) (s2 : Int)  (w : World) :
    Calls Tryd.prog 64 #[.int .u8 45, nv 110 false 0, nv k2 m2 s2] w fun e w' => e = .returned (.tuple #[nv 110 false 0, .bool (true)]) ∧ Below w.heap.size w w' := by
  go_enter Tryd.func64, Tryd.ntmps64
  go_wp2_with fail
  all_goals exact bodyPost_ret (v := .tuple #[nv 110 false 0, .bool (true)]) (by simp [results, Tryd.results64, go_sem]) rfl ⟨rfl, by repeat (first | (with_reducible refine blw_alloc _ ?_) | (with_reducible refine Below.drew ?_) | (with_reducible refine blw_put _ (by omega) ?_) | (with_reducible refine blw_drewN ?_ _) | (with_reducible exact Below.refl _ _) | (with_reducible refine blw_call ?_ (by assumption)))⟩

set_option maxHeartbeats 800000 in
theorem do_sub_n2 (k1 : Int) (m1 : Bool) (s1 : Int) (_h : (k1 == 110) = false)  (w : World) :
    Calls Tryd.prog 64 #[.int .u8 45, nv k1 m1 s1, nv 110 false 0] w fun e w' => e = .returned (.tuple #[nv 110 false 0, .bool (true)]) ∧ Below w.heap.size w w' := by
  go_enter Tryd.func64, Tryd.ntmps64
  go_wp2_with fail
  all_goals exact bodyPost_ret (v := .tuple #[nv 110 false 0, .bool (true)]) (by simp [results, Tryd.results64, go_sem]) rfl ⟨rfl, by repeat (first | (with_reducible refine blw_alloc _ ?_) | (with_reducible refine Below.drew ?_) | (with_reducible refine blw_put _ (by omega) ?_) | (with_reducible refine blw_drewN ?_ _) | (with_reducible exact Below.refl _ _) | (with_reducible refine blw_call ?_ (by assumption)))⟩

set_option maxHeartbeats 800000 in
theorem do_sub (k1 k2 : Int) (m1 m2 : Bool) (s1 s2 : Int) (k : Int) (m : Bool) (s : Int) (o : Bool) (_h1 : (k1 == 110) = false) (_h2 : (k2 == 110) = false) (H : Hid (∀ w, Calls Tryd.prog 82 #[nv k1 m1 s1, nv k2 (!m2) s2] w fun e w' => e = .returned (.tuple #[nv k m s, .bool o]) ∧ Below w.heap.size w w')) (w : World) :
    Calls Tryd.prog 64 #[.int .u8 45, nv k1 m1 s1, nv k2 m2 s2] w fun e w' => e = .returned (.tuple #[nv k m s, .bool (o)]) ∧ Below w.heap.size w w' := by
  go_enter Tryd.func64, Tryd.ntmps64
  go_wp2_with (go_at_call 82; ((with_reducible refine (H.out _).mono ?_); rintro e w1 ⟨rfl, hb1⟩; obtain ⟨hcc, hff⟩ := bcell hb1; have hs1 := hb1.size; simp only [World.size_alloc] at hs1; have hz1 := blw_lt hs1))
  all_goals exact bodyPost_ret (v := .tuple #[nv k m s, .bool (o)]) (by simp [results, Tryd.results64, go_sem, hcc]) rfl ⟨rfl, by repeat (first | (with_reducible refine blw_alloc _ ?_) | (with_reducible refine Below.drew ?_) | (with_reducible refine blw_put _ (by omega) ?_) | (with_reducible refine blw_drewN ?_ _) | (with_reducible exact Below.refl _ _) | (with_reducible refine blw_call ?_ (by assumption)))⟩

set_option maxHeartbeats 800000 in
theorem do_mul_n1 (k2 : Int) (m2 : Bool) (s2 : Int)  (w : World) :
    Calls Tryd.prog 64 #[.int .u8 42, nv 110 false 0, nv k2 m2 s2] w fun e w' => e = .returned (.tuple #[nv 110 false 0, .bool (true)]) ∧ Below w.heap.size w w' := by
  go_enter Tryd.func64, Tryd.ntmps64
  go_wp2_with fail
  all_goals exact bodyPost_ret (v := .tuple #[nv 110 false 0, .bool (true)]) (by simp [results, Tryd.results64, go_sem]) rfl ⟨rfl, by repeat (first | (with_reducible refine blw_alloc _ ?_) | (with_reducible refine Below.drew ?_) | (with_reducible refine blw_put _ (by omega) ?_) | (with_reducible refine blw_drewN ?_ _) | (with_reducible exact Below.refl _ _) | (with_reducible refine blw_call ?_ (by assumption)))⟩

set_option maxHeartbeats 800000 in
theorem do_mul_n2 (k1 : Int) (m1 : Bool) (s1 : Int) (_h : (k1 == 110) = false)  (w : World) :
    Calls Tryd.prog 64 #[.int .u8 42, nv k1 m1 s1, nv 110 false 0] w fun e w' => e = .returned (.tuple #[nv 110 false 0, .bool (true)]) ∧ Below w.heap.size w w' := by
  go_enter Tryd.func64, Tryd.ntmps64
  go_wp2_with fail
  all_goals exact bodyPost_ret (v := .tuple #[nv 110 false 0, .bool (true)]) (by simp [results, Tryd.results64, go_sem]) rfl ⟨rfl, by repeat (first | (with_reducible refine blw_alloc _ ?_) | (with_reducible refine Below.drew ?_) | (with_reducible refine blw_put _ (by omega) ?_) | (with_reducible refine blw_drewN ?_ _) | (with_reducible exact Below.refl _ _) | (with_reducible refine blw_call ?_ (by assumption)))⟩

set_option maxHeartbeats 800000 in
theorem do_mul (k1 k2 : Int) (m1 m2 : Bool) (s1 s2 : Int) (k : Int) (m : Bool) (s : Int) (o : Bool) (_h1 : (k1 == 110) = false) (_h2 : (k2 == 110) = false) (H : Hid (∀ w, Calls Tryd.prog 83 #[nv k1 m1 s1, nv k2 m2 s2] w fun e w' => e = .returned (.tuple #[nv k m s, .bool o]) ∧ Below w.heap.size w w')) (w : World) :
    Calls Tryd.prog 64 #[.int .u8 42, nv k1 m1 s1, nv k2 m2 s2] w fun e w' => e = .returned (.tuple #[nv k m s, .bool (o)]) ∧ Below w.heap.size w w' := by
  go_enter Tryd.func64, Tryd.ntmps64
  go_wp2_with (go_at_call 83; ((with_reducible refine (H.out _).mono ?_); rintro e w1 ⟨rfl, hb1⟩; obtain ⟨hcc, hff⟩ := bcell hb1; have hs1 := hb1.size; simp only [World.size_alloc] at hs1; have hz1 := blw_lt hs1))
  all_goals exact bodyPost_ret (v := .tuple #[nv k m s, .bool (o)]) (by simp [results, Tryd.results64, go_sem, hcc]) rfl ⟨rfl, by repeat (first | (with_reducible refine blw_alloc _ ?_) | (with_reducible refine Below.drew ?_) | (with_reducible refine blw_put _ (by omega) ?_) | (with_reducible refine blw_drewN ?_ _) | (with_reducible exact Below.refl _ _) | (with_reducible refine blw_call ?_ (by assumption)))⟩

set_option maxHeartbeats 800000 in
theorem do_div_n1 (k2 : Int) (m2 : Bool) (s2 : Int)  (w : World) :
    Calls Tryd.prog 64 #[.int .u8 47, nv 110 false 0, nv k2 m2 s2] w fun e w' => e = .returned (.tuple #[nv 110 false 0, .bool (true)]) ∧ Below w.heap.size w w' := by
  go_enter Tryd.func64, Tryd.ntmps64
  go_wp2_with fail
  all_goals exact bodyPost_ret (v := .tuple #[nv 110 false 0, .bool (true)]) (by simp [results, Tryd.results64, go_sem]) rfl ⟨rfl, by repeat (first | (with_reducible refine blw_alloc _ ?_) | (with_reducible refine Below.drew ?_) | (with_reducible refine blw_put _ (by omega) ?_) | (with_reducible refine blw_drewN ?_ _) | (with_reducible exact Below.refl _ _) | (with_reducible refine blw_call ?_ (by assumption)))⟩

set_option maxHeartbeats 800000 in
theorem do_div_n2 (k1 : Int) (m1 : Bool) (s1 : Int) (_h : (k1 == 110) = false)  (w : World) :
    Calls Tryd.prog 64 #[.int .u8 47, nv k1 m1 s1, nv 110 false 0] w fun e w' => e = .returned (.tuple #[nv 110 false 0, .bool (true)]) ∧ Below w.heap.size w w' := by
  go_enter Tryd.func64, Tryd.ntmps64
  go_wp2_with fail
  all_goals exact bodyPost_ret (v := .tuple #[nv 110 false 0, .bool (true)]) (by simp [results, Tryd.results64, go_sem]) rfl ⟨rfl, by repeat (first | (with_reducible refine blw_alloc _ ?_) | (with_reducible refine Below.drew ?_) | (with_reducible refine blw_put _ (by omega) ?_) | (with_reducible refine blw_drewN ?_ _) | (with_reducible exact Below.refl _ _) | (with_reducible refine blw_call ?_ (by assumption)))⟩

set_option maxHeartbeats 800000 in
theorem do_div (k1 k2 : Int) (m1 m2 : Bool) (s1 s2 : Int) (k : Int) (m : Bool) (s : Int) (o : Bool) (_h1 : (k1 == 110) = false) (_h2 : (k2 == 110) = false) (H : Hid (∀ w, Calls Tryd.prog 84 #[nv k1 m1 s1, nv k2 m2 s2] w fun e w' => e = .returned (.tuple #[nv k m s, .bool o]) ∧ Below w.heap.size w w')) (w : World) :
    Calls Tryd.prog 64 #[.int .u8 47, nv k1 m1 s1, nv k2 m2 s2] w fun e w' => e = .returned (.tuple #[nv k m s, .bool (o)]) ∧ Below w.heap.size w w' := by
  go_enter Tryd.func64, Tryd.ntmps64
  go_wp2_with (go_at_call 84; ((with_reducible refine (H.out _).mono ?_); rintro e w1 ⟨rfl, hb1⟩; obtain ⟨hcc, hff⟩ := bcell hb1; have hs1 := hb1.size; simp only [World.size_alloc] at hs1; have hz1 := blw_lt hs1))
  all_goals exact bodyPost_ret (v := .tuple #[nv k m s, .bool (o)]) (by simp [results, Tryd.results64, go_sem, hcc]) rfl ⟨rfl, by repeat (first | (with_reducible refine blw_alloc _ ?_) | (with_reducible refine Below.drew ?_) | (with_reducible refine blw_put _ (by omega) ?_) | (with_reducible refine blw_drewN ?_ _) | (with_reducible exact Below.refl _ _) | (with_reducible refine blw_call ?_ (by assumption)))⟩

end Go.Proofs.YtbkgophgclpijaaDoor.M
