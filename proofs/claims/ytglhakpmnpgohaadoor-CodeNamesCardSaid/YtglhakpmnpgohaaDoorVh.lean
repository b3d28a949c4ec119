/- CodeNames at every input. -/
import Derived.Test.YtglhakpmnpgohaaDoorVf
namespace Go.Proofs.YtglhakpmnpgohaaDoor
open Go.RowKit

theorem tmod_bd (n m : Int) (h : 0 < m) : -m < n.tmod m ∧ n.tmod m < m := by
  rcases Int.le_total 0 n with hn | hn
  · rw [Int.tmod_eq_emod_of_nonneg hn]
    have := Int.emod_nonneg n (by omega : m ≠ 0)
    have := Int.emod_lt_of_pos n h
    omega
  · have e : n.tmod m = -((-n) % m) := by rw [← Int.tmod_eq_emod_of_nonneg (by omega : 0 ≤ -n), Int.neg_tmod, Int.neg_neg]
    have := Int.emod_nonneg (-n) (by omega : m ≠ 0)
    have := Int.emod_lt_of_pos (-n) h
    omega
theorem rem_nat (n : Int) (m : Nat) (h : 0 < m) : ∃ r : Nat, r < m ∧ (n.tmod (m : Int) + (m : Int)).tmod (m : Int) = (r : Int) ∧ (n.tmod (m : Int) + (m : Int)) % (m : Int) = (r : Int) ∧ 0 < n.tmod (m : Int) + (m : Int) ∧ n.tmod (m : Int) < (m : Int) := by
  have hb := tmod_bd n m (by omega)
  have hE : (n.tmod (m : Int) + (m : Int)).tmod (m : Int) = (n.tmod (m : Int) + (m : Int)) % (m : Int) := Int.tmod_eq_emod_of_nonneg (by omega)
  have h0 := Int.emod_nonneg (n.tmod (m : Int) + (m : Int)) (by omega : (m : Int) ≠ 0)
  have h1 := Int.emod_lt_of_pos (n.tmod (m : Int) + (m : Int)) (by omega : (0 : Int) < (m : Int))
  refine ⟨((n.tmod (m : Int) + (m : Int)) % (m : Int)).toNat, by omega, by rw [hE]; omega, by omega, by omega, hb.2⟩

/-- Three whole numbers in block b. -/
abbrev At3 (w : World) (b : Nat) (x y z : Int) : Prop := w.cell? ⟨b, 0, none⟩ = some (.int .i64 x) ∧ w.cell? ⟨b, 1, none⟩ = some (.int .i64 y) ∧ w.cell? ⟨b, 2, none⟩ = some (.int .i64 z)
theorem At3.later {W W1 : World} {b : Nat} {x y z : Int} (h : At3 W b x y z) (hb : Below W.heap.size W W1) : At3 W1 b x y z :=
  ⟨cell_later hb h.1 (Nat.le_refl _), cell_later hb h.2.1 (Nat.le_refl _), cell_later hb h.2.2 (Nat.le_refl _)⟩

set_option maxRecDepth 100000 in
set_option maxHeartbeats 4000000 in
theorem names_all (a b : Int) (w : World) (hT : Tb w) :
    Calls Tryd.prog 6 #[.int .i64 a, .int .i64 b] w fun e w' => e = .returned (.bool true) ∧ Below w.heap.size w w' := by
  obtain ⟨p, hp, hp1, hp2, hp3, hp4⟩ := rem_nat a 88 (by omega)
  obtain ⟨q, hq, hq1, hq2, hq3, hq4⟩ := rem_nat b 88 (by omega)
  rw [show ((88 : Nat) : Int) = 88 from rfl] at hp1 hp2 hp3 hp4 hq1 hq2 hq3 hq4
  go_enter Tryd.func6, Tryd.ntmps6
  go_wp2_with (first | (go_at_call 7; ((with_reducible refine (fit_any _ hT).mono ?_); rintro e w1 ⟨rfl, hb1⟩)))
  have hBW : Below w.heap.size w ((w1.alloc (.cells #[.int .i64 ((p : Int) + 1), .int .i64 0, .int .i64 0] 44)).alloc (.cells #[.int .i64 ((q : Int) + 1), .int .i64 0, .int .i64 0] 44)) :=
    (hb1.alloc hb1.size _).alloc (by have := hb1.size; simp; omega) _
  obtain ⟨W, hW⟩ : ∃ W, W = (w1.alloc (.cells #[.int .i64 ((p : Int) + 1), .int .i64 0, .int .i64 0] 44)).alloc (.cells #[.int .i64 ((q : Int) + 1), .int .i64 0, .int .i64 0] 44) := ⟨_, rfl⟩
  have a5 : At3 W w1.heap.size ((p : Int) + 1) 0 0 := by rw [hW]; refine ⟨?_, ?_, ?_⟩ <;> simp
  have a6 : At3 W (w1.heap.size + 1) ((q : Int) + 1) 0 0 := by rw [hW]; refine ⟨?_, ?_, ?_⟩ <;> simp
  rw [← hW] at hBW ⊢
  have hTW := hT.on hBW
  clear hW
  have cP0 : ∀ W', Tb W' → Calls Tryd.prog 15 #[.agg #[.int .i64 ((p : Int) + 1), .int .i64 0, .int .i64 0]] W' fun e w' => e = .returned (.string (showS p 0 0)) ∧ Below W'.heap.size W' w' := fun W' h => show_any p 0 0 hp (by omega) (by omega) W' h
  have cQ0 : ∀ W', Tb W' → Calls Tryd.prog 15 #[.agg #[.int .i64 ((q : Int) + 1), .int .i64 0, .int .i64 0]] W' fun e w' => e = .returned (.string (showS q 0 0)) ∧ Below W'.heap.size W' w' := fun W' h => show_any q 0 0 hq (by omega) (by omega) W' h
  have cP1 : ∀ W', Tb W' → Calls Tryd.prog 15 #[.agg #[.int .i64 ((p : Int) + 1), .int .i64 1, .int .i64 0]] W' fun e w' => e = .returned (.string (showS p 1 0)) ∧ Below W'.heap.size W' w' := fun W' h => show_any p 1 0 hp (by omega) (by omega) W' h
  have cP2 : ∀ W', Tb W' → Calls Tryd.prog 15 #[.agg #[.int .i64 ((p : Int) + 1), .int .i64 0, .int .i64 1]] W' fun e w' => e = .returned (.string (showS p 0 1)) ∧ Below W'.heap.size W' w' := fun W' h => show_any p 0 1 hp (by omega) (by omega) W' h
  have n1 : ¬ showS p 0 0 = showS p 1 0 := show_ne p 0 0 1 0 (by decide)
  have n2 : ¬ showS p 0 0 = showS p 0 1 := show_ne p 0 0 0 1 (by decide)
  have n0 : ¬ showS p 0 0 = ⟨#[]⟩ := by
    rw [showS_eq]; intro e
    have h2 := congrArg ByteArray.data e
    simp at h2
  have nq : ¬ p = q → ¬ showS p 0 0 = showS q 0 0 := fun h e => h (show_inj p q hp hq e)
  have hsame : p = q → showS p 0 0 = showS q 0 0 := fun h => by rw [h]
  obtain ⟨A0, hA0⟩ : ∃ s, s = showS p 0 0 := ⟨_, rfl⟩
  obtain ⟨B0, hB0⟩ : ∃ s, s = showS q 0 0 := ⟨_, rfl⟩
  obtain ⟨A1, hA1⟩ : ∃ s, s = showS p 1 0 := ⟨_, rfl⟩
  obtain ⟨A2, hA2⟩ : ∃ s, s = showS p 0 1 := ⟨_, rfl⟩
  rw [← hA0] at cP0 n1 n2 n0 nq hsame
  rw [← hB0] at cQ0 nq hsame
  rw [← hA1] at cP1 n1
  rw [← hA2] at cP2 n2
  clear hA0 hB0 hA1 hA2
  have e1 := beq_ne n1
  have e2 := beq_ne n2
  have e0 := beq_ne n0
  have f1 := e1
  have f2 := e2
  have f0 := e0
  rw [beq_toListBytes] at f1 f2 f0
  have f0'' : ¬ A0.toList = [] := fun h => n0 (ByteArray.ext (Array.toList_inj.1 (by rw [← ByteArray.toList_eq]; simpa using h)))
  have f0' : A0.toList.isEmpty = false := by
    cases h : A0.toList with
    | nil => exact absurd h f0''
    | cons => rfl
  clear n1 n2 n0 hp1 hp2 hp3 hp4 hq1 hq2 hq3 hq4
  by_cases hpq : p = q
  · obtain rfl : A0 = B0 := hsame hpq
    subst hpq
    clear nq hsame
    refine wp_region_fresh (by kernel_rfl) (by kernel_rfl) ?_
    repeat (first | go_big_quiet_skip | (go_big_quiet_want; (first | (go_big_quiet_op; go_big_quiet_on) | (apply quiet_load44; exact rfl; exact rfl; (intro wq hw9; first | with_reducible exact At3.later a5 hw9 | with_reducible exact At3.later a6 hw9); simp only [Act.put, List.setIfInBounds_toArray, List.set_cons_zero, List.set_cons_succ]; go_big_quiet_on) | (apply quiet_load3; exact rfl; exact rfl; (intro wq hw9; first | with_reducible exact (At3.later a5 hw9).1 | with_reducible exact (At3.later a6 hw9).1); simp only [Act.put, List.setIfInBounds_toArray, List.set_cons_zero, List.set_cons_succ]; go_big_quiet_on) | (refine quiet_call1 (f := 15) (u := .agg #[.int .i64 ((p : Int) + 1), .int .i64 0, .int .i64 0]) (v := .string A0) rfl rfl (run_callShow _) ?_ ?_; (intro wq hw9; exact (cP0 wq (hTW.on hw9)).mono (fun _ _ hh => ⟨hh.1, blw2 hw9 hh.2⟩)); simp only [Act.put, List.setIfInBounds_toArray, List.set_cons_zero, List.set_cons_succ]; go_big_quiet_on) | (refine quiet_call1 (f := 15) (u := .agg #[.int .i64 ((p : Int) + 1), .int .i64 1, .int .i64 0]) (v := .string A1) rfl rfl (run_callShow _) ?_ ?_; (intro wq hw9; exact (cP1 wq (hTW.on hw9)).mono (fun _ _ hh => ⟨hh.1, blw2 hw9 hh.2⟩)); simp only [Act.put, List.setIfInBounds_toArray, List.set_cons_zero, List.set_cons_succ]; go_big_quiet_on) | (refine quiet_call1 (f := 15) (u := .agg #[.int .i64 ((p : Int) + 1), .int .i64 0, .int .i64 1]) (v := .string A2) rfl rfl (run_callShow _) ?_ ?_; (intro wq hw9; exact (cP2 wq (hTW.on hw9)).mono (fun _ _ hh => ⟨hh.1, blw2 hw9 hh.2⟩)); simp only [Act.put, List.setIfInBounds_toArray, List.set_cons_zero, List.set_cons_succ]; go_big_quiet_on) | (apply quiet_pure; (intro wq; go_simp; exact rfl); simp only [Act.put, List.setIfInBounds_toArray, List.set_cons_zero, List.set_cons_succ]; go_big_quiet_on))))
    refine wpQuiet_nil ?_
    intro w9 hb9
    go_wp2_with fail
    go_ret
    exact ⟨rfl, hBW.trans (hb9.mono hBW.size)⟩
  · have e3 := beq_ne (nq hpq)
    have f3 := e3
    rw [beq_toListBytes] at f3
    have g1 : ((p : Int) + 1 == (q : Int) + 1) = false := by simpa using (by omega : ¬ (p : Int) = (q : Int))
    have g2 : ((p : Int) == (q : Int)) = false := by simpa using (by omega : ¬ (p : Int) = (q : Int))
    clear nq hsame hpq
    refine wp_region_fresh (by kernel_rfl) (by kernel_rfl) ?_
    repeat (first | go_big_quiet_skip | (go_big_quiet_want; (first | (go_big_quiet_op; go_big_quiet_on) | (apply quiet_load44; exact rfl; exact rfl; (intro wq hw9; first | with_reducible exact At3.later a5 hw9 | with_reducible exact At3.later a6 hw9); simp only [Act.put, List.setIfInBounds_toArray, List.set_cons_zero, List.set_cons_succ]; go_big_quiet_on) | (apply quiet_load3; exact rfl; exact rfl; (intro wq hw9; first | with_reducible exact (At3.later a5 hw9).1 | with_reducible exact (At3.later a6 hw9).1); simp only [Act.put, List.setIfInBounds_toArray, List.set_cons_zero, List.set_cons_succ]; go_big_quiet_on) | (refine quiet_call1 (f := 15) (u := .agg #[.int .i64 ((p : Int) + 1), .int .i64 0, .int .i64 0]) (v := .string A0) rfl rfl (run_callShow _) ?_ ?_; (intro wq hw9; exact (cP0 wq (hTW.on hw9)).mono (fun _ _ hh => ⟨hh.1, blw2 hw9 hh.2⟩)); simp only [Act.put, List.setIfInBounds_toArray, List.set_cons_zero, List.set_cons_succ]; go_big_quiet_on) | (refine quiet_call1 (f := 15) (u := .agg #[.int .i64 ((q : Int) + 1), .int .i64 0, .int .i64 0]) (v := .string B0) rfl rfl (run_callShow _) ?_ ?_; (intro wq hw9; exact (cQ0 wq (hTW.on hw9)).mono (fun _ _ hh => ⟨hh.1, blw2 hw9 hh.2⟩)); simp only [Act.put, List.setIfInBounds_toArray, List.set_cons_zero, List.set_cons_succ]; go_big_quiet_on) | (refine quiet_call1 (f := 15) (u := .agg #[.int .i64 ((p : Int) + 1), .int .i64 1, .int .i64 0]) (v := .string A1) rfl rfl (run_callShow _) ?_ ?_; (intro wq hw9; exact (cP1 wq (hTW.on hw9)).mono (fun _ _ hh => ⟨hh.1, blw2 hw9 hh.2⟩)); simp only [Act.put, List.setIfInBounds_toArray, List.set_cons_zero, List.set_cons_succ]; go_big_quiet_on) | (refine quiet_call1 (f := 15) (u := .agg #[.int .i64 ((p : Int) + 1), .int .i64 0, .int .i64 1]) (v := .string A2) rfl rfl (run_callShow _) ?_ ?_; (intro wq hw9; exact (cP2 wq (hTW.on hw9)).mono (fun _ _ hh => ⟨hh.1, blw2 hw9 hh.2⟩)); simp only [Act.put, List.setIfInBounds_toArray, List.set_cons_zero, List.set_cons_succ]; go_big_quiet_on) | (apply quiet_pure; (intro wq; go_simp; exact rfl); simp only [Act.put, List.setIfInBounds_toArray, List.set_cons_zero, List.set_cons_succ]; go_big_quiet_on))))
    refine wpQuiet_nil ?_
    intro w9 hb9
    go_wp2_with fail
    go_ret
    exact ⟨rfl, hBW.trans (hb9.mono hBW.size)⟩
end Go.Proofs.YtglhakpmnpgohaaDoor
