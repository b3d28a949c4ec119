/- What the reference answers for the numbers of the layer: the same as num's operators. -/
import Derived.Test.YtbkgophgclpijaaDoorMm
namespace Go.Proofs.YtbkgophgclpijaaDoor.M
open Go.RowKit

def rK (k : Int) : Int := if k = 4 then 110 else if k = 5 then 105 else 119
def rS (k n : Int) : Int := if k = 5 then 0 else mg n
/-- A number as the reference has it. -/
abbrev nvN (k n : Int) : Value := nv (rK k) (negB k n) (rS k n)
/-- What function f of the reference answers: the number r, or that there is none. -/
def Ans (f : FuncId) (A B : Value) (r : Int × Int × Bool) : Prop :=
  (r.2.2 = true ∧ ∀ w, Calls Tryd.prog f #[A, B] w fun e w' => e = .returned (.tuple #[nvN r.1 r.2.1, .bool true]) ∧ Below w.heap.size w w') ∨
  (r.2.2 = false ∧ ∃ k m s, ∀ w, Calls Tryd.prog f #[A, B] w fun e w' => e = .returned (.tuple #[nv k m s, .bool false]) ∧ Below w.heap.size w w')
theorem Ans.yes {f : FuncId} {A B A' B' : Value} {k n κ s : Int} {m : Bool} (hA : A = A') (hB : B = B') (h1 : rK k = κ) (h2 : negB k n = m) (h3 : rS k n = s)
    (hc : ∀ w, Calls Tryd.prog f #[A', B'] w fun e w' => e = .returned (.tuple #[nv κ m s, .bool true]) ∧ Below w.heap.size w w') : Ans f A B (k, n, true) := by
  subst hA hB h1 h2 h3
  exact .inl ⟨rfl, hc⟩
theorem Ans.no {f : FuncId} {A B A' B' : Value} {κ s : Int} {m : Bool} (hA : A = A') (hB : B = B')
    (hc : ∀ w, Calls Tryd.prog f #[A', B'] w fun e w' => e = .returned (.tuple #[nv κ m s, .bool false]) ∧ Below w.heap.size w w') : Ans f A B (0, 0, false) := by
  subst hA hB
  exact .inr ⟨rfl, κ, m, s, hc⟩
theorem nv_inf (n : Int) : nvN 5 n = nv 105 (negB 5 n) 0 := rfl
theorem nv_zer {k n : Int} (h : Num k n) (hz : zerB k n = true) : nvN k n = nv 119 (negB k n) 0 := by
  rcases h with ⟨rfl, rfl⟩ | ⟨rfl, rfl⟩ | ⟨rfl, rfl⟩ | ⟨rfl, rfl⟩ | ⟨rfl, h1, h2⟩
  · cases hz
  · cases hz
  · cases hz
  · rfl
  · have h0 : n = 0 := by simpa [zerB] using hz
    subst h0
    rfl
theorem nv_int (n : Int) : nvN 3 n = nv 119 (negB 3 n) (mg n) := rfl
theorem neg_inf (b : Bool) : negB 5 (if b then -1 else 1) = b := by cases b <;> rfl
theorem neg_zero (b : Bool) : negB (if b then 6 else 3) 0 = b := by cases b <;> rfl
theorem rk_zero (b : Bool) : rK (if b then 6 else 3) = 119 := by cases b <;> rfl
theorem rs_zero (b : Bool) : rS (if b then 6 else 3) 0 = 0 := by cases b <;> rfl
theorem bne_not (a b : Bool) : (a != b) = !(a == b) := rfl
theorem mg_nonneg (n : Int) : 0 ≤ mg n := by unfold mg; omega
theorem neg_prod (a b : Int) (ha : a ≠ 0) (hb : b ≠ 0) : negB 3 (a * b) = !(negB 3 a == negB 3 b) := by
  have e : ∀ n : Int, negB 3 n = decide (n < 0) := fun n => rfl
  rw [e, e, e]
  by_cases h1 : a < 0 <;> by_cases h2 : b < 0
  · rw [decide_eq_true h1, decide_eq_true h2, decide_eq_false (by have := Int.mul_pos_of_neg_of_neg h1 h2; omega)]; rfl
  · rw [decide_eq_true h1, decide_eq_false h2, decide_eq_true (Int.mul_neg_of_neg_of_pos h1 (by omega))]; rfl
  · rw [decide_eq_false h1, decide_eq_true h2, decide_eq_true (Int.mul_neg_of_pos_of_neg (by omega) h2)]; rfl
  · rw [decide_eq_false h1, decide_eq_false h2, decide_eq_false (by have := Int.mul_pos (a := a) (b := b) (by omega) (by omega); omega)]; rfl
theorem mg_mul (a b : Int) : mg (a * b) = mg a * mg b := by unfold mg; rw [Int.natAbs_mul]; simp
theorem mul_le_iff (a b : Int) (ha : 0 < mg a) (hb : 0 < mg b) : mg b ≤ 9007199254740991 / mg a ↔ mg a ≤ 9007199254740991 / mg b := by
  rw [Int.le_ediv_iff_mul_le ha, Int.le_ediv_iff_mul_le hb, Int.mul_comm]
theorem prod_num {k1 n1 k2 n2 : Int} (h1 : Num k1 n1) (h2 : Num k2 n2) (h14 : k1 ≠ 4) (h24 : k2 ≠ 4) : Ans 83 (nvN k1 n1) (nvN k2 n2) (mulR k1 n1 k2 n2) := by
  unfold mulR
  by_cases a5 : k1 = 5
  · subst a5
    by_cases b5 : k2 = 5
    · subst b5
      have e2 : zerB 5 n2 = false := rfl
      have e1 : zerB 5 n1 = false := rfl
      rw [e1, e2, if_neg (by simp), if_pos (Or.inl rfl)]
      exact Ans.yes (nv_inf n1) (nv_inf n2) rfl (neg_inf _) rfl (prod_ii _ _)
    · rcases hz : zerB k2 n2 with _ | _
      · obtain ⟨rfl, y0, y1, y2⟩ := num_int k2 n2 h2 h24 b5 hz
        have e1 : zerB 5 n1 = false := rfl
        rw [e1, if_neg (by simp), if_pos (Or.inl rfl)]
        exact Ans.yes (nv_inf n1) (nv_int n2) rfl (neg_inf _) rfl (prod_iw _ _ _ (by have := mg_pos n2 y0; simp; omega))
      · rw [if_pos (Or.inr (Or.inr (Or.inl ⟨rfl, rfl⟩)))]
        exact Ans.yes (nv_inf n1) (nv_zer h2 hz) rfl rfl rfl (prod_iz _ _)
  · rcases hz1 : zerB k1 n1 with _ | _
    · obtain ⟨rfl, x0, x1, x2⟩ := num_int k1 n1 h1 h14 a5 hz1
      have px := mg_pos n1 x0
      have gx := mg_le n1 x1 x2
      by_cases b5 : k2 = 5
      · subst b5
        rw [if_neg (by simp), if_pos (Or.inr rfl)]
        exact Ans.yes (nv_int n1) (nv_inf n2) rfl (neg_inf _) rfl (prod_wi _ _ _ (by simp; omega))
      · rw [if_neg (by simp [h24]), if_neg (by simp [b5])]
        rcases hz2 : zerB k2 n2 with _ | _
        · obtain ⟨rfl, y0, y1, y2⟩ := num_int k2 n2 h2 h24 b5 hz2
          have py := mg_pos n2 y0
          have gy := mg_le n2 y1 y2
          rw [if_neg (by simp)]
          by_cases hc : mg n1 ≤ 9007199254740991 / mg n2
          · rw [if_pos hc]
            have hb := prod_bound n1 n2 y0 hc
            have hm := mg_mul n1 n2
            have hg := mg_le (n1 * n2) hb.1 hb.2
            have hn := mg_nonneg (n1 * n2)
            exact Ans.yes (nv_int n1) (nv_int n2) rfl (neg_prod n1 n2 x0 y0) hm (prod_ww _ _ _ (by omega) gx _ (by omega) gy (by omega) (by simp; omega) px ((mul_le_iff n1 n2 px py).2 hc) (by omega) (by omega))
          · rw [if_neg hc]
            have hc2 : 9007199254740991 / mg n1 < mg n2 := by
              rcases Int.lt_or_le (9007199254740991 / mg n1) (mg n2) with h | h
              · exact h
              · exact absurd ((mul_le_iff n1 n2 px py).1 h) hc
            exact Ans.no (nv_int n1) (nv_int n2) (prod_no _ _ _ (by omega) gx _ (by omega) gy (by omega) (by simp; omega) px hc2)
        · rw [if_pos (Or.inr rfl)]
          have h0 : 0 ≤ 9007199254740991 / mg n1 := Int.ediv_nonneg (by omega) (by omega)
          exact Ans.yes (nv_int n1) (nv_zer h2 hz2) (rk_zero _) (neg_zero _) ((rs_zero _).trans (Int.mul_zero (mg n1)).symm) (prod_ww _ _ _ (by omega) gx _ (by omega) (by omega) (by omega) (by simp; omega) px h0 (by omega) (by omega))
    · by_cases b5 : k2 = 5
      · subst b5
        rw [if_pos (Or.inr (Or.inr (Or.inr ⟨rfl, rfl⟩)))]
        exact Ans.yes (nv_zer h1 hz1) (nv_inf n2) rfl rfl rfl (prod_zi _ _)
      · rw [if_neg (by simp [h14, h24, a5, b5]), if_neg (by simp [a5, b5]), if_pos (Or.inl rfl)]
        rcases hz2 : zerB k2 n2 with _ | _
        · obtain ⟨rfl, y0, y1, y2⟩ := num_int k2 n2 h2 h24 b5 hz2
          exact Ans.yes (nv_zer h1 hz1) (nv_int n2) (rk_zero _) (neg_zero _) (rs_zero _) (prod_zw _ _ _ (mg_nonneg n2) (mg_le n2 y1 y2))
        · exact Ans.yes (nv_zer h1 hz1) (nv_zer h2 hz2) (rk_zero _) (neg_zero _) (rs_zero _) (prod_zw _ _ _ (by omega) (by omega))
theorem div_exact (a b : Int) : (mg a / mg b * mg b == mg a) = decide (a.tmod b = 0) := by
  have e1 : mg a / mg b * mg b = ((a.natAbs / b.natAbs * b.natAbs : Nat) : Int) := by unfold mg; simp
  have e2 : mg a = ((a.natAbs : Nat) : Int) := rfl
  have e3 : (a.tmod b).natAbs = a.natAbs % b.natAbs := Int.natAbs_tmod a b
  have e4 := Nat.div_add_mod a.natAbs b.natAbs
  rw [e1, e2, Bool.eq_iff_iff]
  simp only [beq_iff_eq, decide_eq_true_eq, Int.natCast_inj]
  rw [Nat.mul_comm]
  generalize b.natAbs * (a.natAbs / b.natAbs) = X at *
  omega
theorem neg_quo (a b : Int) (ha : a ≠ 0) (hb : b ≠ 0) (h : a.tmod b = 0) : negB 3 (a.tdiv b) = !(negB 3 a == negB 3 b) := by
  have e3 := Int.tmod_add_mul_tdiv a b
  rw [h, Int.zero_add] at e3
  have hq : a.tdiv b ≠ 0 := fun h0 => ha (by rw [← e3, h0, Int.mul_zero])
  have h1 := neg_prod b (a.tdiv b) hb hq
  rw [e3] at h1
  rw [h1]
  cases negB 3 b <;> cases negB 3 (a.tdiv b) <;> rfl
theorem mg_quo (a b : Int) : mg (a.tdiv b) = mg a / mg b := by unfold mg; rw [Int.natAbs_tdiv]; exact Int.natCast_ediv _ _
theorem quo_num {k1 n1 k2 n2 : Int} (h1 : Num k1 n1) (h2 : Num k2 n2) (h14 : k1 ≠ 4) (h24 : k2 ≠ 4) : Ans 84 (nvN k1 n1) (nvN k2 n2) (divR k1 n1 k2 n2) := by
  unfold divR
  by_cases a5 : k1 = 5
  · subst a5
    have e1 : zerB 5 n1 = false := rfl
    by_cases b5 : k2 = 5
    · subst b5
      rw [if_pos (Or.inr (Or.inr (Or.inl ⟨rfl, rfl⟩)))]
      exact Ans.yes (nv_inf n1) (nv_inf n2) rfl rfl rfl (quo_ii _ _)
    · rw [e1, if_neg (by simp [h24, b5]), if_pos (Or.inl rfl)]
      rcases hz : zerB k2 n2 with _ | _
      · obtain ⟨rfl, y0, y1, y2⟩ := num_int k2 n2 h2 h24 b5 hz
        exact Ans.yes (nv_inf n1) (nv_int n2) rfl (neg_inf _) rfl (quo_iw _ _ _ (by have := mg_pos n2 y0; simp; omega))
      · exact Ans.yes (nv_inf n1) (nv_zer h2 hz) rfl (neg_inf _) rfl (quo_iz _ _)
  · rcases hz2 : zerB k2 n2 with _ | _
    · rw [if_neg (by simp [h14, h24, a5]), if_neg (by simp [a5])]
      by_cases b5 : k2 = 5
      · subst b5
        rw [if_pos (Or.inl rfl)]
        rcases hz1 : zerB k1 n1 with _ | _
        · obtain ⟨rfl, x0, x1, x2⟩ := num_int k1 n1 h1 h14 a5 hz1
          exact Ans.yes (nv_int n1) (nv_inf n2) (rk_zero _) (neg_zero _) (rs_zero _) (quo_wi _ _ _)
        · exact Ans.yes (nv_zer h1 hz1) (nv_inf n2) (rk_zero _) (neg_zero _) (rs_zero _) (quo_wi _ _ _)
      · obtain ⟨rfl, y0, y1, y2⟩ := num_int k2 n2 h2 h24 b5 hz2
        have py := mg_pos n2 y0
        have gy := mg_le n2 y1 y2
        rcases hz1 : zerB k1 n1 with _ | _
        · obtain ⟨rfl, x0, x1, x2⟩ := num_int k1 n1 h1 h14 a5 hz1
          have gx := mg_le n1 x1 x2
          have nx := mg_nonneg n1
          have q0 : 0 ≤ mg n1 / mg n2 := Int.ediv_nonneg nx (by omega)
          have q1 : mg n1 / mg n2 * mg n2 ≤ mg n1 := Int.ediv_mul_le _ (by omega)
          have q2 : mg n1 / mg n2 ≤ mg n1 := Int.ediv_le_self _ nx
          have q3 : 0 ≤ mg n1 / mg n2 * mg n2 := Int.mul_nonneg q0 (by omega)
          have hq := quo_ww (negB 3 n1) (negB 3 n2) (mg n1) nx gx (mg n2) (by omega) gy (by omega) (by simp; omega) py (by omega) q3 q0 (by omega)
          rw [div_exact n1 n2] at hq
          rw [if_neg (by simp)]
          by_cases hc : n1.tmod n2 = 0
          · rw [decide_eq_true hc] at hq
            rw [if_pos hc]
            exact Ans.yes (nv_int n1) (nv_int n2) rfl (neg_quo n1 n2 x0 y0 hc) (mg_quo n1 n2) hq
          · rw [decide_eq_false hc] at hq
            rw [if_neg hc]
            exact Ans.no (nv_int n1) (nv_int n2) hq
        · rw [if_pos (Or.inr rfl)]
          have hq := quo_ww (negB k1 n1) (negB 3 n2) 0 (by omega) (by omega) (mg n2) (by omega) gy (by omega) (by simp; omega) py (by simp) (by simp) (by simp) (by simp)
          simp only [Int.zero_ediv, Int.zero_mul] at hq
          exact Ans.yes (nv_zer h1 hz1) (nv_int n2) (rk_zero _) (neg_zero _) (rs_zero _) hq
    · rcases hz1 : zerB k1 n1 with _ | _
      · rw [if_neg (by simp [h14, h24, a5]), if_pos (Or.inr rfl)]
        by_cases b5 : k2 = 5
        · subst b5; cases hz2
        · obtain ⟨rfl, x0, x1, x2⟩ := num_int k1 n1 h1 h14 a5 hz1
          exact Ans.yes (nv_int n1) (nv_zer h2 hz2) rfl (neg_inf _) rfl (quo_wz _ _ _ (by have := mg_pos n1 x0; simp; omega))
      · rw [if_pos (Or.inr (Or.inr (Or.inr ⟨rfl, rfl⟩)))]
        exact Ans.yes (nv_zer h1 hz1) (nv_zer h2 hz2) rfl rfl rfl (quo_zz _ _)
/-- The whole numbers and -0 by their sign and size. -/
def Sz (k n : Int) (m : Bool) (s : Int) : Prop := nvN k n = nv 119 m s ∧ 0 ≤ s ∧ s ≤ 9007199254740991 ∧ (m = true ∧ (k = 6 ∧ n = 0 ∧ s = 0 ∨ k = 3 ∧ n < 0 ∧ s = -n) ∨ m = false ∧ k = 3 ∧ 0 ≤ n ∧ n = s)
theorem sz_of {k n : Int} (h : Num k n) (h4 : k ≠ 4) (h5 : k ≠ 5) : ∃ m s, Sz k n m s := by
  rcases h with ⟨rfl, rfl⟩ | ⟨rfl, rfl⟩ | ⟨rfl, rfl⟩ | ⟨rfl, rfl⟩ | ⟨rfl, h1, h2⟩
  · exact absurd rfl h4
  · exact absurd rfl h5
  · exact absurd rfl h5
  · exact ⟨true, 0, rfl, by omega, by omega, .inl ⟨rfl, .inl ⟨rfl, rfl, rfl⟩⟩⟩
  · have e : ∀ n : Int, negB 3 n = decide (n < 0) := fun n => rfl
    by_cases hn : n < 0
    · refine ⟨true, -n, ?_, by omega, by omega, .inl ⟨rfl, .inr ⟨rfl, hn, rfl⟩⟩⟩
      rw [nv_int, e, decide_eq_true hn]
      have : mg n = -n := by unfold mg; omega
      rw [this]
    · refine ⟨false, n, ?_, by omega, by omega, .inr ⟨rfl, rfl, by omega, rfl⟩⟩
      rw [nv_int, e, decide_eq_false hn]
      have : mg n = n := by unfold mg; omega
      rw [this]
theorem rk_three : rK 3 = 119 := rfl
theorem rk_six : rK 6 = 119 := rfl
theorem rs_three (n : Int) : rS 3 n = mg n := rfl
theorem neg_lt (n : Int) (h : n < 0) : negB 3 n = true := by show decide (n < 0) = true; exact decide_eq_true h
theorem neg_ge (n : Int) (h : 0 ≤ n) : negB 3 n = false := by show decide (n < 0) = false; exact decide_eq_false (by omega)
theorem mg_lt (n : Int) (h : n < 0) : mg n = -n := by unfold mg; omega
theorem mg_ge (n : Int) (h : 0 ≤ n) : mg n = n := by unfold mg; omega
/-- The sum of two such numbers. -/
theorem sum_w {k1 n1 k2 n2 s1 s2 : Int} {m1 m2 : Bool} (h1 : Sz k1 n1 m1 s1) (h2 : Sz k2 n2 m2 s2) : Ans 82 (nvN k1 n1) (nvN k2 n2) (addR k1 n1 k2 n2) := by
  obtain ⟨e1, a1, g1, c1⟩ := h1
  obtain ⟨e2, a2, g2, c2⟩ := h2
  rcases c1 with ⟨rfl, c1⟩ | ⟨rfl, rfl, p1, rfl⟩ <;> rcases c2 with ⟨rfl, c2⟩ | ⟨rfl, rfl, p2, rfl⟩
  · -- both with a sign
    have hs := sum_ww_tt s1 a1 g1 s2 a2 g2
    rcases c1 with ⟨rfl, rfl, rfl⟩ | ⟨rfl, p1, rfl⟩ <;> rcases c2 with ⟨rfl, rfl, rfl⟩ | ⟨rfl, p2, rfl⟩
    · exact Ans.yes e1 e2 rfl rfl rfl hs
    · have e : addR 6 0 3 n2 = (3, n2, true) := by unfold addR; rw [if_neg (by omega), if_neg (by omega), if_pos (Or.inr rfl)]
      have d : decide (0 + -n2 ≤ 9007199254740991) = true := decide_eq_true (by omega)
      rw [d] at hs
      rw [e]
      exact Ans.yes e1 e2 rfl (neg_lt n2 p2) ((mg_lt n2 p2).trans (Int.zero_add _).symm) hs
    · have e : addR 3 n1 6 0 = (3, n1, true) := by unfold addR; rw [if_neg (by omega), if_pos (Or.inr rfl)]
      have d : decide (-n1 + 0 ≤ 9007199254740991) = true := decide_eq_true (by omega)
      rw [d] at hs
      rw [e]
      exact Ans.yes e1 e2 rfl (neg_lt n1 p1) ((mg_lt n1 p1).trans (Int.add_zero _).symm) hs
    · have e : addR 3 n1 3 n2 = if -9007199254740991 ≤ n1 + n2 ∧ n1 + n2 ≤ 9007199254740991 then (3, n1 + n2, true) else (0, 0, false) := by
        unfold addR; rw [if_neg (by omega), if_neg (by omega), if_neg (by omega)]
      rw [e]
      by_cases hc : -9007199254740991 ≤ n1 + n2 ∧ n1 + n2 ≤ 9007199254740991
      · have d : decide (-n1 + -n2 ≤ 9007199254740991) = true := decide_eq_true (by omega)
        rw [d] at hs
        rw [if_pos hc]
        exact Ans.yes e1 e2 rfl (neg_lt _ (by omega)) ((mg_lt _ (by omega)).trans (by omega)) hs
      · have d : decide (-n1 + -n2 ≤ 9007199254740991) = false := decide_eq_false (by omega)
        rw [d] at hs
        rw [if_neg hc]
        exact Ans.no e1 e2 hs
  · -- the first with a sign, the second without
    have e : addR k1 n1 3 n2 = (3, n1 + n2, true) := by
      unfold addR
      rcases c1 with ⟨rfl, rfl, rfl⟩ | ⟨rfl, p1, rfl⟩
      · rw [if_neg (by omega), if_neg (by omega), if_pos (Or.inr rfl), Int.zero_add]
      · rw [if_neg (by omega), if_neg (by omega), if_neg (by omega), if_pos (by omega)]
    have hs1 : s1 = -n1 := by omega
    rw [e]
    rcases Int.lt_trichotomy s1 n2 with h | h | h
    · exact Ans.yes e1 e2 rfl (neg_ge _ (by omega)) ((mg_ge _ (by omega)).trans (by omega)) (sum_lt_tf s1 a1 g1 n2 a2 g2 h (by simp; omega))
    · subst h
      have z : n1 + s1 = 0 := by omega
      rw [z]
      exact Ans.yes e1 e2 rfl rfl rfl (sum_eq_tf s1 a1 g1)
    · exact Ans.yes e1 e2 rfl (neg_lt _ (by omega)) ((mg_lt _ (by omega)).trans (by omega)) (sum_gt_tf s1 a1 g1 n2 a2 g2 h (by simp; omega))
  · -- the second with a sign, the first without
    have e : addR 3 n1 k2 n2 = (3, n1 + n2, true) := by
      unfold addR
      rcases c2 with ⟨rfl, rfl, rfl⟩ | ⟨rfl, p2, rfl⟩
      · rw [if_neg (by omega), if_pos (Or.inr rfl), Int.add_zero]
      · rw [if_neg (by omega), if_neg (by omega), if_neg (by omega), if_pos (by omega)]
    have hs2 : s2 = -n2 := by omega
    rw [e]
    rcases Int.lt_trichotomy n1 s2 with h | h | h
    · exact Ans.yes e1 e2 rfl (neg_lt _ (by omega)) ((mg_lt _ (by omega)).trans (by omega)) (sum_lt_ft n1 a1 g1 s2 a2 g2 h (by simp; omega))
    · subst h
      have z : n1 + n2 = 0 := by omega
      rw [z]
      exact Ans.yes e1 e2 rfl rfl rfl (sum_eq_ft n1 a1 g1)
    · exact Ans.yes e1 e2 rfl (neg_ge _ (by omega)) ((mg_ge _ (by omega)).trans (by omega)) (sum_gt_ft n1 a1 g1 s2 a2 g2 h (by simp; omega))
  · -- both without
    have hs := sum_ww_ff n1 a1 g1 n2 a2 g2
    have e : addR 3 n1 3 n2 = if -9007199254740991 ≤ n1 + n2 ∧ n1 + n2 ≤ 9007199254740991 then (3, n1 + n2, true) else (0, 0, false) := by
      unfold addR; rw [if_neg (by omega), if_neg (by omega), if_neg (by omega)]
    rw [e]
    by_cases hc : -9007199254740991 ≤ n1 + n2 ∧ n1 + n2 ≤ 9007199254740991
    · rw [decide_eq_true hc.2] at hs
      rw [if_pos hc]
      exact Ans.yes e1 e2 rfl (neg_ge _ (by omega)) (mg_ge _ (by omega)) hs
    · rw [decide_eq_false (by omega)] at hs
      rw [if_neg hc]
      exact Ans.no e1 e2 hs
theorem sum_num {k1 n1 k2 n2 : Int} (h1 : Num k1 n1) (h2 : Num k2 n2) (h14 : k1 ≠ 4) (h24 : k2 ≠ 4) : Ans 82 (nvN k1 n1) (nvN k2 n2) (addR k1 n1 k2 n2) := by
  by_cases a5 : k1 = 5
  · subst a5
    by_cases b5 : k2 = 5
    · subst b5
      rcases num_inf n1 h1 with rfl | rfl <;> rcases num_inf n2 h2 with rfl | rfl
      · exact Ans.yes rfl rfl rfl rfl rfl sum_ii_ff
      · exact Ans.yes rfl rfl rfl rfl rfl sum_ii_ft
      · exact Ans.yes rfl rfl rfl rfl rfl sum_ii_tf
      · exact Ans.yes rfl rfl rfl rfl rfl sum_ii_tt
    · obtain ⟨m2, s2, z2⟩ := sz_of h2 h24 b5
      have e : addR 5 n1 k2 n2 = (5, n1, true) := by unfold addR; rw [if_neg (by omega), if_pos (Or.inl rfl)]
      rw [e]
      exact Ans.yes (nv_inf n1) z2.1 rfl rfl rfl (sum_iw _ _ _)
  · obtain ⟨m1, s1, z1⟩ := sz_of h1 h14 a5
    by_cases b5 : k2 = 5
    · subst b5
      have e : addR k1 n1 5 n2 = (5, n2, true) := by unfold addR; rw [if_neg (by omega), if_neg (by omega), if_pos (Or.inl rfl)]
      rw [e]
      exact Ans.yes z1.1 (nv_inf n2) rfl rfl rfl (sum_wi _ _ _)
    · obtain ⟨m2, s2, z2⟩ := sz_of h2 h24 b5
      exact sum_w z1 z2
theorem mg_neg (n : Int) : mg (-n) = mg n := by unfold mg; rw [Int.natAbs_neg]
theorem four_neg (k n : Int) : negK k n = 4 ↔ k = 4 := by unfold negK; repeat' split; all_goals omega
theorem five_neg (k n : Int) : negK k n = 5 ↔ k = 5 := by unfold negK; repeat' split; all_goals omega
theorem negb_neg (k n : Int) (h : Num k n) (h4 : k ≠ 4) : negB (negK k n) (negN k n) = !negB k n := by
  rcases h with ⟨rfl, rfl⟩ | ⟨rfl, rfl⟩ | ⟨rfl, rfl⟩ | ⟨rfl, rfl⟩ | ⟨rfl, h1, h2⟩
  · exact absurd rfl h4
  · rfl
  · rfl
  · rfl
  · by_cases h0 : n = 0
    · subst h0; rfl
    · have e1 : decide (-n < 0) = !decide (n < 0) := by
        by_cases hn : n < 0
        · rw [decide_eq_true hn, decide_eq_false (by omega)]; rfl
        · rw [decide_eq_false hn, decide_eq_true (by omega)]; rfl
      simp only [negB, negK, negN, if_true, if_neg h0, e1]
      rfl

/-- What the reference's Do answers at an operator: the number r, or that there is none. -/
def AnsD (op : Int) (A B : Value) (r : Int × Int × Bool) : Prop :=
  (r.2.2 = true ∧ ∀ w, Calls Tryd.prog 64 #[.int .u8 op, A, B] w fun e w' => e = .returned (.tuple #[nvN r.1 r.2.1, .bool true]) ∧ Below w.heap.size w w') ∨
  (r.2.2 = false ∧ ∃ k m s, ∀ w, Calls Tryd.prog 64 #[.int .u8 op, A, B] w fun e w' => e = .returned (.tuple #[nv k m s, .bool false]) ∧ Below w.heap.size w w')
theorem AnsD.lift {op : Int} {f : FuncId} {A B A' B' : Value} {r : Int × Int × Bool} (h : Ans f A' B' r)
    (hd : ∀ k m s o, Hid (∀ w, Calls Tryd.prog f #[A', B'] w fun e w' => e = .returned (.tuple #[nv k m s, .bool o]) ∧ Below w.heap.size w w') →
      ∀ w, Calls Tryd.prog 64 #[.int .u8 op, A, B] w fun e w' => e = .returned (.tuple #[nv k m s, .bool o]) ∧ Below w.heap.size w w') : AnsD op A B r := by
  rcases h with ⟨h1, h2⟩ | ⟨h1, k, m, s, h2⟩
  · exact .inl ⟨h1, hd _ _ _ _ h2⟩
  · exact .inr ⟨h1, k, m, s, hd _ _ _ _ h2⟩
theorem rk_not {k : Int} (h : k ≠ 4) : (rK k == 110) = false := by unfold rK; rw [if_neg h]; split <;> rfl
theorem nv_nan {k n : Int} (h : Num k n) (hk : k = 4) : nvN k n = nv 110 false 0 := by
  subst hk; rw [num_nan 4 n h rfl]; rfl
theorem nv_neg {k n : Int} (h : Num k n) (h4 : k ≠ 4) : nvN (negK k n) (negN k n) = nv (rK k) (!negB k n) (rS k n) := by
  have e1 : rK (negK k n) = rK k := by
    unfold rK
    by_cases h5 : k = 5
    · rw [if_neg (fun x => h4 ((four_neg k n).1 x)), if_pos ((five_neg k n).2 h5), if_neg h4, if_pos h5]
    · rw [if_neg (fun x => h4 ((four_neg k n).1 x)), if_neg (fun x => h5 ((five_neg k n).1 x)), if_neg h4, if_neg h5]
  have e2 : rS (negK k n) (negN k n) = rS k n := by
    rcases h with ⟨rfl, rfl⟩ | ⟨rfl, rfl⟩ | ⟨rfl, rfl⟩ | ⟨rfl, rfl⟩ | ⟨rfl, h1, h2⟩
    · exact absurd rfl h4
    · rfl
    · rfl
    · rfl
    · by_cases h0 : n = 0
      · subst h0; rfl
      · have ek : negK 3 n = 3 := by simp [negK, h0]
        have en : negN 3 n = -n := by simp [negN]
        rw [ek, en, rs_three, rs_three, mg_neg]
  show nv _ _ _ = nv _ _ _
  rw [e1, e2, negb_neg k n h h4]
theorem add_nan1 {k1 n1 k2 n2 : Int} (h : k1 = 4 ∨ k2 = 4) : addR k1 n1 k2 n2 = (4, 0, true) := by unfold addR; rw [if_pos (by omega)]
theorem mul_nan1 {k1 n1 k2 n2 : Int} (h : k1 = 4 ∨ k2 = 4) : mulR k1 n1 k2 n2 = (4, 0, true) := by
  unfold mulR; rw [if_pos (h.elim .inl fun h => .inr (.inl h))]
theorem div_nan1 {k1 n1 k2 n2 : Int} (h : k1 = 4 ∨ k2 = 4) : divR k1 n1 k2 n2 = (4, 0, true) := by
  unfold divR; rw [if_pos (h.elim .inl fun h => .inr (.inl h))]
theorem AnsD.nan {op : Int} {A B A' B' : Value} {r : Int × Int × Bool} (hA : A = A') (hB : B = B') (hr : r = (4, 0, true))
    (hc : ∀ w, Calls Tryd.prog 64 #[.int .u8 op, A', B'] w fun e w' => e = .returned (.tuple #[nv 110 false 0, .bool true]) ∧ Below w.heap.size w w') : AnsD op A B r := by
  subst hA hB hr
  exact .inl ⟨rfl, hc⟩
theorem do_add_num {k1 n1 k2 n2 : Int} (h1 : Num k1 n1) (h2 : Num k2 n2) : AnsD 43 (nvN k1 n1) (nvN k2 n2) (addR k1 n1 k2 n2) := by
  by_cases a4 : k1 = 4
  · exact AnsD.nan (nv_nan h1 a4) rfl (add_nan1 (.inl a4)) (do_add_n1 _ _ _)
  by_cases b4 : k2 = 4
  · exact AnsD.nan rfl (nv_nan h2 b4) (add_nan1 (.inr b4)) (do_add_n2 _ _ _ (rk_not a4))
  exact AnsD.lift (sum_num h1 h2 a4 b4) fun k m s o H => do_add _ _ _ _ _ _ k m s o (rk_not a4) (rk_not b4) H
theorem do_mul_num {k1 n1 k2 n2 : Int} (h1 : Num k1 n1) (h2 : Num k2 n2) : AnsD 42 (nvN k1 n1) (nvN k2 n2) (mulR k1 n1 k2 n2) := by
  by_cases a4 : k1 = 4
  · exact AnsD.nan (nv_nan h1 a4) rfl (mul_nan1 (.inl a4)) (do_mul_n1 _ _ _)
  by_cases b4 : k2 = 4
  · exact AnsD.nan rfl (nv_nan h2 b4) (mul_nan1 (.inr b4)) (do_mul_n2 _ _ _ (rk_not a4))
  exact AnsD.lift (prod_num h1 h2 a4 b4) fun k m s o H => do_mul _ _ _ _ _ _ k m s o (rk_not a4) (rk_not b4) H
theorem do_div_num {k1 n1 k2 n2 : Int} (h1 : Num k1 n1) (h2 : Num k2 n2) : AnsD 47 (nvN k1 n1) (nvN k2 n2) (divR k1 n1 k2 n2) := by
  by_cases a4 : k1 = 4
  · exact AnsD.nan (nv_nan h1 a4) rfl (div_nan1 (.inl a4)) (do_div_n1 _ _ _)
  by_cases b4 : k2 = 4
  · exact AnsD.nan rfl (nv_nan h2 b4) (div_nan1 (.inr b4)) (do_div_n2 _ _ _ (rk_not a4))
  exact AnsD.lift (quo_num h1 h2 a4 b4) fun k m s o H => do_div _ _ _ _ _ _ k m s o (rk_not a4) (rk_not b4) H
theorem do_sub_num {k1 n1 k2 n2 : Int} (h1 : Num k1 n1) (h2 : Num k2 n2) : AnsD 45 (nvN k1 n1) (nvN k2 n2) (subR k1 n1 k2 n2) := by
  unfold subR
  by_cases a4 : k1 = 4
  · exact AnsD.nan (nv_nan h1 a4) rfl (add_nan1 (.inl a4)) (do_sub_n1 _ _ _)
  by_cases b4 : k2 = 4
  · exact AnsD.nan rfl (nv_nan h2 b4) (add_nan1 (.inr ((four_neg k2 n2).2 b4))) (do_sub_n2 _ _ _ (rk_not a4))
  have hs := sum_num h1 (num_neg k2 n2 h2) a4 (fun x => b4 ((four_neg k2 n2).1 x))
  rw [nv_neg h2 b4] at hs
  exact AnsD.lift hs fun k m s o H => do_sub _ _ _ _ _ _ k m s o (rk_not a4) (rk_not b4) H
theorem of_any {k n : Int} (h : Num k n) (w : World) : Calls Tryd.prog 43 #[vv k n] w fun e w' => e = .returned (nvN k n) ∧ Below w.heap.size w w' := by
  rcases h with ⟨rfl, rfl⟩ | ⟨rfl, rfl⟩ | ⟨rfl, rfl⟩ | ⟨rfl, rfl⟩ | ⟨rfl, h1, h2⟩
  · exact of_nan w
  · exact of_inf w
  · exact of_minf w
  · exact of_nz w
  · rw [nv_int]
    by_cases hn : n < 0
    · rw [neg_lt n hn, mg_lt n hn]; exact of_neg n hn h1 w
    · rw [neg_ge n (by omega), mg_ge n (by omega)]; exact of_pos n (by omega) w
theorem val_any {k n : Int} (h : Num k n) (w : World) : Calls Tryd.prog 63 #[nvN k n] w fun e w' => e = .returned (vv k n) ∧ Below w.heap.size w w' := by
  rcases h with ⟨rfl, rfl⟩ | ⟨rfl, rfl⟩ | ⟨rfl, rfl⟩ | ⟨rfl, rfl⟩ | ⟨rfl, h1, h2⟩
  · exact val_nan w
  · exact val_inf w
  · exact val_minf w
  · exact val_nz w
  · rw [nv_int]
    by_cases hn : n < 0
    · rw [neg_lt n hn, mg_lt n hn]
      have hv := val_neg (-n) (by omega) (by simp; omega) (by omega) w
      rw [Int.neg_neg] at hv
      exact hv
    · rw [neg_ge n (by omega), mg_ge n (by omega)]
      by_cases h0 : n = 0
      · subst h0; exact val_zero w
      · exact val_pos n (by simpa using h0) w
theorem rrem_any {k1 n1 k2 n2 : Int} (h1 : Num k1 n1) (h2 : Num k2 n2) (w : World) :
    Calls Tryd.prog 62 #[nvN k1 n1, nvN k2 n2] w fun e w' => e = .returned (nvN (remR k1 n1 k2 n2).1 (remR k1 n1 k2 n2).2) ∧ Below w.heap.size w w' := by
  have key : ∀ A B k n κ m s, nvN k1 n1 = A → nvN k2 n2 = B → remR k1 n1 k2 n2 = (k, n) → rK k = κ → negB k n = m → rS k n = s →
      (Calls Tryd.prog 62 #[A, B] w fun e w' => e = .returned (nv κ m s) ∧ Below w.heap.size w w') →
      Calls Tryd.prog 62 #[nvN k1 n1, nvN k2 n2] w fun e w' => e = .returned (nvN (remR k1 n1 k2 n2).1 (remR k1 n1 k2 n2).2) ∧ Below w.heap.size w w' := by
    intro A B k n κ m s hA hB hr e1 e2 e3 h
    rw [hr, hA, hB]
    show Calls Tryd.prog 62 #[A, B] w fun e w' => e = .returned (nv (rK k) (negB k n) (rS k n)) ∧ Below w.heap.size w w'
    rw [e1, e2, e3]
    exact h
  by_cases a4 : k1 = 4
  · exact key _ _ 4 0 _ _ _ (nv_nan h1 a4) rfl (by unfold remR; rw [if_pos (.inl a4)]) rfl rfl rfl (rrem_n1 _ _ _ w)
  by_cases a5 : k1 = 5
  · subst a5
    exact key _ _ 4 0 _ _ _ (nv_inf n1) rfl (by unfold remR; rw [if_pos (.inr (.inr (.inl rfl)))]) rfl rfl rfl (rrem_i1 _ _ _ _ w)
  obtain ⟨m1, s1, z1⟩ := sz_of h1 a4 a5
  by_cases b4 : k2 = 4
  · exact key _ _ 4 0 _ _ _ z1.1 (nv_nan h2 b4) (by unfold remR; rw [if_pos (.inr (.inl b4))]) rfl rfl rfl (rrem_n2 _ _ w)
  rcases hz2 : zerB k2 n2 with _ | _
  · have hN : ¬(k1 = 4 ∨ k2 = 4 ∨ k1 = 5 ∨ zerB k2 n2 = true) := by rw [hz2]; simp [a4, b4, a5]
    by_cases b5 : k2 = 5
    · subst b5
      have e : nvN k1 n1 = nv 119 (negB k1 n1) (rS k1 n1) := by show nv _ _ _ = _; unfold rK; rw [if_neg a4, if_neg a5]
      exact key _ _ k1 n1 _ _ _ e (nv_inf n2) (by unfold remR; rw [if_neg hN, if_pos (.inl rfl)]) (by unfold rK; rw [if_neg a4, if_neg a5]) rfl rfl (rrem_i2 _ _ _ w)
    · obtain ⟨rfl, y0, y1, y2⟩ := num_int k2 n2 h2 b4 b5 hz2
      have py := mg_pos n2 y0
      have gy := mg_le n2 y1 y2
      rcases hz1 : zerB k1 n1 with _ | _
      · obtain ⟨rfl, x0, x1, x2⟩ := num_int k1 n1 h1 a4 a5 hz1
        have gx := mg_le n1 x1 x2
        have nx := mg_nonneg n1
        have q0 : 0 ≤ mg n1 / mg n2 := Int.ediv_nonneg nx (by omega)
        have q1 : mg n1 / mg n2 * mg n2 ≤ mg n1 := Int.ediv_mul_le _ (by omega)
        have q2 : mg n1 / mg n2 ≤ mg n1 := Int.ediv_le_self _ nx
        have q3 : 0 ≤ mg n1 / mg n2 * mg n2 := Int.mul_nonneg q0 (by omega)
        have hM : ¬((3 : Int) = 5 ∨ zerB 3 n1 = true) := by rw [hz1]; simp
        have hw := rrem_ww (negB 3 n1) (negB 3 n2) (mg n1) nx gx (mg n2) (by omega) gy (by omega) (by simp; omega) py (by omega) q3 q0 (by omega) w
        have e3 : (n1.tmod n2).natAbs = n1.natAbs % n2.natAbs := Int.natAbs_tmod n1 n2
        have e4 := Nat.div_add_mod n1.natAbs n2.natAbs
        have hm : mg (n1.tmod n2) = mg n1 - mg n1 / mg n2 * mg n2 := by
          have e1 : mg n1 / mg n2 * mg n2 = ((n1.natAbs / n2.natAbs * n2.natAbs : Nat) : Int) := by unfold mg; simp
          rw [e1, Nat.mul_comm]
          unfold mg
          omega
        by_cases hr : n1.tmod n2 = 0
        · have h0 : mg n1 - mg n1 / mg n2 * mg n2 = 0 := by rw [← hm, hr]; rfl
          rw [h0] at hw
          exact key _ _ _ 0 _ _ _ (nv_int n1) (nv_int n2) (by unfold remR; rw [if_neg hN, if_neg hM, if_pos hr]) (rk_zero _) (neg_zero _) (rs_zero _) hw
        · have hs : negB 3 (n1.tmod n2) = negB 3 n1 := by
            by_cases hn : n1 < 0
            · have h2 := Int.tmod_nonneg n2 (a := -n1) (by omega)
              rw [Int.neg_tmod] at h2
              rw [neg_lt n1 hn, neg_lt _ (by omega)]
            · have h2 := Int.tmod_nonneg n2 (a := n1) (by omega)
              rw [neg_ge n1 (by omega), neg_ge _ h2]
          exact key _ _ 3 _ _ _ _ (nv_int n1) (nv_int n2) (by unfold remR; rw [if_neg hN, if_neg hM, if_neg hr]) rfl hs hm hw
      · have hw := rrem_ww (negB k1 n1) (negB 3 n2) 0 (by omega) (by omega) (mg n2) (by omega) gy (by omega) (by simp; omega) py (by simp) (by simp) (by simp) (by simp) w
        simp only [Int.zero_ediv, Int.zero_mul, Int.sub_zero] at hw
        have e0 := nv_zer h1 hz1
        have es : rS k1 n1 = 0 := by
          simp only [nvN, nv, Value.agg.injEq, Array.mk.injEq, List.cons.injEq, Value.int.injEq, and_true, true_and] at e0
          exact e0.2
        exact key _ _ k1 n1 _ _ _ e0 (nv_int n2) (by unfold remR; rw [if_neg hN, if_pos (.inr hz1)]) (by unfold rK; rw [if_neg a4, if_neg a5]) rfl es hw
  · exact key _ _ 4 0 _ _ _ z1.1 (nv_zer h2 hz2) (by unfold remR; rw [if_pos (.inr (.inr (.inr hz2)))]) rfl rfl rfl (rrem_z2 _ _ _ w)
end Go.Proofs.YtbkgophgclpijaaDoor.M
