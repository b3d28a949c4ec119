/- NumParts holds: for all inputs a and b it returns true; no condition beyond the row's own (the listed tables lie as the program's text lays them). -/
import Derived.Test.YtgeaecljfmbleaaDoorNj
import Derived.Test.YtgeaecljfmbleaaDoorNy
import Derived.Test.YtgeaecljfmbleaaDoorTie
import Derived.Test.YtgeaecljfmbleaaDoorCards
import Derived.SevenTiedAt
import Derived.Deep.RegionHeld3
namespace Go.Proofs.YtgeaecljfmbleaaDoor
open Go.ChangeShapes Go.WideShapes Go.ChangeAt Go.WideMaps Go.WideElems Go.RowKit

theorem tmod_facts (a b : Int) : (0 < b → -b < a.tmod b ∧ a.tmod b < b) ∧ (b < 0 → b < a.tmod b ∧ a.tmod b < -b) ∧ (0 ≤ a → 0 ≤ a.tmod b) ∧ (a ≤ 0 → a.tmod b ≤ 0) := by
  have lt : ∀ c : Int, 0 < c → -c < a.tmod c ∧ a.tmod c < c := by
    intro c hc
    have h := Int.tmod_lt_of_pos a hc
    have h2 := Int.tmod_lt_of_pos (-a) hc
    rw [Int.neg_tmod] at h2
    omega
  refine ⟨lt b, fun h => ?_, fun h => Int.tmod_nonneg b h, fun h => ?_⟩
  · have h2 := lt (-b) (by omega)
    rw [Int.tmod_neg] at h2
    omega
  · have h2 := Int.tmod_nonneg b (a := -a) (by omega)
    rw [Int.neg_tmod] at h2
    omega
theorem num_int3 (n : Int) (h1 : -9007199254740991 ≤ n) (h2 : n ≤ 9007199254740991) : Num 3 n := .inr (.inr (.inr (.inr ⟨rfl, h1, h2⟩)))
theorem zer_three (n : Int) : zerB 3 n = (n == 0) := rfl
theorem rem_zero (a b : Int) (hb : b ≠ 0) (ha : a < 0) (hm : a.tmod b = 0) : remR 3 a 3 b = (6, 0) := by
  have e1 : zerB 3 a = false := by rw [zer_three]; simp; omega
  have e2 : zerB 3 b = false := by rw [zer_three]; simpa using hb
  have e3 : negB 3 a = true := by unfold negB; simpa using ha
  unfold remR
  rw [e1, e2, e3, if_neg (by simp), if_neg (by simp), if_pos hm]
  rfl
theorem rem_other (a b : Int) (hb : b ≠ 0) (h : ¬(a < 0 ∧ a.tmod b = 0)) : remR 3 a 3 b = (3, a.tmod b) := by
  have e2 : zerB 3 b = false := by rw [zer_three]; simpa using hb
  by_cases ha : a = 0
  · subst ha
    have e : (0 : Int).tmod b = 0 := Int.zero_tmod b
    rw [e]
    unfold remR
    have e1 : zerB 3 0 = true := rfl
    rw [e2, e1, if_neg (by simp), if_pos (Or.inr rfl)]
  · have e1 : zerB 3 a = false := by rw [zer_three]; simpa using ha
    unfold remR
    rw [e1, e2, if_neg (by simp), if_neg (by simp)]
    by_cases hm : a.tmod b = 0
    · have e3 : negB 3 a = false := by unfold negB; simp; omega
      rw [if_pos hm, e3, hm]
      rfl
    · rw [if_neg hm]
theorem sub_ints (a r : Int) (h1 : -9007199254740991 ≤ a - r) (h2 : a - r ≤ 9007199254740991) : subR 3 a 3 r = (3, a - r, true) := by
  unfold subR addR
  by_cases h0 : r = 0
  · subst h0
    have ek : negK 3 0 = 6 := rfl
    have en : negN 3 0 = 0 := rfl
    rw [ek, en, if_neg (by omega), if_pos (Or.inr rfl), Int.sub_zero]
  · have ek : negK 3 r = 3 := by simp [negK, h0]
    have en : negN 3 r = -r := by simp [negN]
    rw [ek, en, ← Int.sub_eq_add_neg, if_neg (by omega), if_neg (by omega), if_neg (by omega), if_pos ⟨h1, h2⟩]
theorem parts_bound (a b : Int) (h1 : -9007199254740991 ≤ a) (h2 : a ≤ 9007199254740991) : -9007199254740991 ≤ b * a.tdiv b ∧ b * a.tdiv b ≤ 9007199254740991 := by
  have h : (b * a.tdiv b).natAbs ≤ a.natAbs := by
    rw [Int.natAbs_mul, Int.natAbs_tdiv]
    exact Nat.mul_div_le _ _
  omega
theorem back_again (a b : Int) (hb : b ≠ 0) (h1 : -9007199254740991 ≤ a) (h2 : a ≤ 9007199254740991) :
    ∃ qk qn, Num qk qn ∧ divR 3 (b * a.tdiv b) 3 b = (qk, qn, true) ∧ mulR qk qn 3 b = (3, b * a.tdiv b, true) := by
  have e2 : zerB 3 b = false := by rw [zer_three]; simpa using hb
  by_cases hp : b * a.tdiv b = 0
  · rw [hp]
    have e1 : zerB 3 0 = true := rfl
    have e0 : negB 3 0 = false := rfl
    by_cases hs : b < 0
    · have e3 : negB 3 b = true := by unfold negB; simpa using hs
      refine ⟨6, 0, by unfold Num; omega, ?_, ?_⟩
      · unfold divR
        rw [e1, e2, e0, e3, if_neg (by simp), if_neg (by simp), if_pos (Or.inr rfl)]
        rfl
      · have e4 : zerB 6 0 = true := rfl
        have e5 : negB 6 0 = true := rfl
        unfold mulR
        rw [e4, e2, e5, e3, if_neg (by simp), if_neg (by simp), if_pos (Or.inl rfl)]
        rfl
    · have e3 : negB 3 b = false := by unfold negB; simp; omega
      refine ⟨3, 0, by unfold Num; omega, ?_, ?_⟩
      · unfold divR
        rw [e1, e2, e0, e3, if_neg (by simp), if_neg (by simp), if_pos (Or.inr rfl)]
        rfl
      · unfold mulR
        rw [e1, e2, e0, e3, if_neg (by simp), if_neg (by simp), if_pos (Or.inl rfl)]
        rfl
  · have hm : a.tdiv b ≠ 0 := fun h => hp (by rw [h, Int.mul_zero])
    have e1 : zerB 3 (b * a.tdiv b) = false := by rw [zer_three]; simpa using hp
    have e4 : zerB 3 (a.tdiv b) = false := by rw [zer_three]; simpa using hm
    have hb1 := tdiv_bound a b h1 h2
    refine ⟨3, a.tdiv b, by unfold Num; omega, ?_, ?_⟩
    · unfold divR
      rw [e1, e2, if_neg (by simp), if_neg (by simp), if_neg (by simp), if_pos (Int.mul_tmod_right b _), Int.mul_tdiv_cancel_left _ hb]
    · have hc : mg (a.tdiv b) ≤ 9007199254740991 / mg b := by
        rw [Int.le_ediv_iff_mul_le (mg_pos b hb)]
        have h3 := parts_bound a b h1 h2
        have e : mg (a.tdiv b) * mg b = ((b * a.tdiv b).natAbs : Int) := by unfold mg; rw [Int.natAbs_mul, Int.mul_comm]; simp
        rw [e]
        omega
      unfold mulR
      rw [e4, e2, if_neg (by simp), if_neg (by simp), if_neg (by simp), if_pos hc, Int.mul_comm]

set_option maxRecDepth 100000 in
set_option maxHeartbeats 3200000 in
theorem parts_a (a b k1 n1 k2 n2 : Int) (ha : Hid (numV a = (k1, n1))) (hb : Hid (numV b = (k2, n2))) (_hk : (k1 != 3) = true) (w : World) :
    Calls Tryd.prog 7 #[.int .i64 a, .int .i64 b] w fun e w' => e = .returned (.bool true) ∧ Below w.heap.size w w' := by
  go_enter Tryd.func7, Tryd.ntmps7
  go_upto_region 3 with (first | (go_at_call 9; ((with_reducible refine (fit_any _).mono ?_); rintro e w1 ⟨rfl, hbf⟩)))
  go_cut [5, 6] (fun s5 s6 wx => ∃ c5 c6 : Nat, s5 = .pointer (some ⟨c5, 0, none⟩) ∧ s6 = .pointer (some ⟨c6, 0, none⟩) ∧ At wx c5 k1 n1 ∧ At wx c6 k2 n2 ∧ Below w.heap.size w wx)
  case first =>
    go_wp2_with (first | (go_at_call 10; ((with_reducible refine (numOf_at _ _ _ ha _).mono ?_); rintro e w' ⟨rfl, rfl⟩)) | (go_at_call 10; ((with_reducible refine (numOf_at _ _ _ hb _).mono ?_); rintro e w' ⟨rfl, rfl⟩)))
    go_meet
    exact ⟨_, _, rfl, rfl, by repeat (first | (with_reducible assumption) | (with_reducible refine At.drew ?_) | (with_reducible refine At.put (k := 0) (n := 0) ?_) | (with_reducible refine At.far ?_ (by omega)) | (with_reducible refine At.new _ _ (by simp)) | (with_reducible refine At.alloc ?_ _) | (with_reducible refine At.later ?_ (by assumption))), by repeat (first | (with_reducible assumption) | (with_reducible refine At.drew ?_) | (with_reducible refine At.put (k := 0) (n := 0) ?_) | (with_reducible refine At.far ?_ (by omega)) | (with_reducible refine At.new _ _ (by simp)) | (with_reducible refine At.alloc ?_ _) | (with_reducible refine At.later ?_ (by assumption))), by repeat (first | (with_reducible assumption) | (with_reducible refine blw_alloc _ ?_) | (with_reducible refine Below.drew ?_) | (with_reducible exact Below.refl _ _) | (with_reducible refine blw_put _ (by omega) ?_) | (with_reducible refine blw_call ?_ (by assumption)))⟩
  case rest =>
    obtain ⟨c5, c6, rfl, rfl, a5, a6, hbw⟩ := hcut
    have la5 := At.lt a5
    have la6 := At.lt a6
    have hws := hbw.size
    go_wp2_with fail
    all_goals go_ret
    all_goals exact ⟨rfl, by repeat (first | (with_reducible assumption) | (with_reducible refine blw_alloc _ ?_) | (with_reducible refine Below.drew ?_) | (with_reducible exact Below.refl _ _) | (with_reducible refine blw_put _ (by omega) ?_) | (with_reducible refine blw_call ?_ (by assumption)))⟩

set_option maxRecDepth 100000 in
set_option maxHeartbeats 3200000 in
theorem parts_b (a b n1 k2 n2 : Int) (ha : Hid (numV a = (3, n1))) (hb : Hid (numV b = (k2, n2))) (_hk : (k2 != 3) = true) (w : World) :
    Calls Tryd.prog 7 #[.int .i64 a, .int .i64 b] w fun e w' => e = .returned (.bool true) ∧ Below w.heap.size w w' := by
  go_enter Tryd.func7, Tryd.ntmps7
  go_upto_region 3 with (first | (go_at_call 9; ((with_reducible refine (fit_any _).mono ?_); rintro e w1 ⟨rfl, hbf⟩)))
  go_cut [5, 6] (fun s5 s6 wx => ∃ c5 c6 : Nat, s5 = .pointer (some ⟨c5, 0, none⟩) ∧ s6 = .pointer (some ⟨c6, 0, none⟩) ∧ At wx c5 3 n1 ∧ At wx c6 k2 n2 ∧ Below w.heap.size w wx)
  case first =>
    go_wp2_with (first | (go_at_call 10; ((with_reducible refine (numOf_at _ _ _ ha _).mono ?_); rintro e w' ⟨rfl, rfl⟩)) | (go_at_call 10; ((with_reducible refine (numOf_at _ _ _ hb _).mono ?_); rintro e w' ⟨rfl, rfl⟩)))
    go_meet
    exact ⟨_, _, rfl, rfl, by repeat (first | (with_reducible assumption) | (with_reducible refine At.drew ?_) | (with_reducible refine At.put (k := 0) (n := 0) ?_) | (with_reducible refine At.far ?_ (by omega)) | (with_reducible refine At.new _ _ (by simp)) | (with_reducible refine At.alloc ?_ _) | (with_reducible refine At.later ?_ (by assumption))), by repeat (first | (with_reducible assumption) | (with_reducible refine At.drew ?_) | (with_reducible refine At.put (k := 0) (n := 0) ?_) | (with_reducible refine At.far ?_ (by omega)) | (with_reducible refine At.new _ _ (by simp)) | (with_reducible refine At.alloc ?_ _) | (with_reducible refine At.later ?_ (by assumption))), by repeat (first | (with_reducible assumption) | (with_reducible refine blw_alloc _ ?_) | (with_reducible refine Below.drew ?_) | (with_reducible exact Below.refl _ _) | (with_reducible refine blw_put _ (by omega) ?_) | (with_reducible refine blw_call ?_ (by assumption)))⟩
  case rest =>
    obtain ⟨c5, c6, rfl, rfl, a5, a6, hbw⟩ := hcut
    have la5 := At.lt a5
    have la6 := At.lt a6
    have hws := hbw.size
    go_wp2_with fail
    all_goals go_ret
    all_goals exact ⟨rfl, by repeat (first | (with_reducible assumption) | (with_reducible refine blw_alloc _ ?_) | (with_reducible refine Below.drew ?_) | (with_reducible exact Below.refl _ _) | (with_reducible refine blw_put _ (by omega) ?_) | (with_reducible refine blw_call ?_ (by assumption)))⟩

set_option maxRecDepth 100000 in
set_option maxHeartbeats 3200000 in
theorem parts_c (a b n1 n2 : Int) (ha : Hid (numV a = (3, n1))) (hb : Hid (numV b = (3, n2))) (h0 : n2 = 0) (w : World) :
    Calls Tryd.prog 7 #[.int .i64 a, .int .i64 b] w fun e w' => e = .returned (.bool true) ∧ Below w.heap.size w w' := by
  subst h0
  go_enter Tryd.func7, Tryd.ntmps7
  go_upto_region 3 with (first | (go_at_call 9; ((with_reducible refine (fit_any _).mono ?_); rintro e w1 ⟨rfl, hbf⟩)))
  go_cut [5, 6] (fun s5 s6 wx => ∃ c5 c6 : Nat, s5 = .pointer (some ⟨c5, 0, none⟩) ∧ s6 = .pointer (some ⟨c6, 0, none⟩) ∧ At wx c5 3 n1 ∧ At wx c6 3 0 ∧ Below w.heap.size w wx)
  case first =>
    go_wp2_with (first | (go_at_call 10; ((with_reducible refine (numOf_at _ _ _ ha _).mono ?_); rintro e w' ⟨rfl, rfl⟩)) | (go_at_call 10; ((with_reducible refine (numOf_at _ _ _ hb _).mono ?_); rintro e w' ⟨rfl, rfl⟩)))
    go_meet
    exact ⟨_, _, rfl, rfl, by repeat (first | (with_reducible assumption) | (with_reducible refine At.drew ?_) | (with_reducible refine At.put (k := 0) (n := 0) ?_) | (with_reducible refine At.far ?_ (by omega)) | (with_reducible refine At.new _ _ (by simp)) | (with_reducible refine At.alloc ?_ _) | (with_reducible refine At.later ?_ (by assumption))), by repeat (first | (with_reducible assumption) | (with_reducible refine At.drew ?_) | (with_reducible refine At.put (k := 0) (n := 0) ?_) | (with_reducible refine At.far ?_ (by omega)) | (with_reducible refine At.new _ _ (by simp)) | (with_reducible refine At.alloc ?_ _) | (with_reducible refine At.later ?_ (by assumption))), by repeat (first | (with_reducible assumption) | (with_reducible refine blw_alloc _ ?_) | (with_reducible refine Below.drew ?_) | (with_reducible exact Below.refl _ _) | (with_reducible refine blw_put _ (by omega) ?_) | (with_reducible refine blw_call ?_ (by assumption)))⟩
  case rest =>
    obtain ⟨c5, c6, rfl, rfl, a5, a6, hbw⟩ := hcut
    have la5 := At.lt a5
    have la6 := At.lt a6
    have hws := hbw.size
    go_wp2_with fail
    all_goals go_ret
    all_goals exact ⟨rfl, by repeat (first | (with_reducible assumption) | (with_reducible refine blw_alloc _ ?_) | (with_reducible refine Below.drew ?_) | (with_reducible exact Below.refl _ _) | (with_reducible refine blw_put _ (by omega) ?_) | (with_reducible refine blw_call ?_ (by assumption)))⟩

set_option maxRecDepth 100000 in
set_option maxHeartbeats 3200000 in
theorem parts_d (a b n1 n2 : Int) (ha : Hid (numV a = (3, n1))) (hb : Hid (numV b = (3, n2))) (h1 : Num 3 n1) (h2 : Num 3 n2) (_h11 : -9007199254740991 ≤ n1) (_h12 : n1 ≤ 9007199254740991) (_h21 : -9007199254740991 ≤ n2) (_h22 : n2 ≤ 9007199254740991) (_hz : n2 ≠ 0) (_hzb : (n2 == 0) = false) (hr : Hid (remR 3 n1 3 n2 = (6, 0))) (_hn : n1 < 0) (_hm : (n1.tmod n2 == 0) = true) (w : World) :
    Calls Tryd.prog 7 #[.int .i64 a, .int .i64 b] w fun e w' => e = .returned (.bool true) ∧ Below w.heap.size w w' := by
  go_enter Tryd.func7, Tryd.ntmps7
  go_upto_region 3 with (first | (go_at_call 9; ((with_reducible refine (fit_any _).mono ?_); rintro e w1 ⟨rfl, hbf⟩)))
  go_cut [5, 6] (fun s5 s6 wx => ∃ c5 c6 : Nat, s5 = .pointer (some ⟨c5, 0, none⟩) ∧ s6 = .pointer (some ⟨c6, 0, none⟩) ∧ At wx c5 3 n1 ∧ At wx c6 3 n2 ∧ Below w.heap.size w wx)
  case first =>
    go_wp2_with (first | (go_at_call 10; ((with_reducible refine (numOf_at _ _ _ ha _).mono ?_); rintro e w' ⟨rfl, rfl⟩)) | (go_at_call 10; ((with_reducible refine (numOf_at _ _ _ hb _).mono ?_); rintro e w' ⟨rfl, rfl⟩)))
    go_meet
    exact ⟨_, _, rfl, rfl, by repeat (first | (with_reducible assumption) | (with_reducible refine At.drew ?_) | (with_reducible refine At.put (k := 0) (n := 0) ?_) | (with_reducible refine At.far ?_ (by omega)) | (with_reducible refine At.new _ _ (by simp)) | (with_reducible refine At.alloc ?_ _) | (with_reducible refine At.later ?_ (by assumption))), by repeat (first | (with_reducible assumption) | (with_reducible refine At.drew ?_) | (with_reducible refine At.put (k := 0) (n := 0) ?_) | (with_reducible refine At.far ?_ (by omega)) | (with_reducible refine At.new _ _ (by simp)) | (with_reducible refine At.alloc ?_ _) | (with_reducible refine At.later ?_ (by assumption))), by repeat (first | (with_reducible assumption) | (with_reducible refine blw_alloc _ ?_) | (with_reducible refine Below.drew ?_) | (with_reducible exact Below.refl _ _) | (with_reducible refine blw_put _ (by omega) ?_) | (with_reducible refine blw_call ?_ (by assumption)))⟩
  case rest =>
    obtain ⟨c5, c6, rfl, rfl, a5, a6, hbw⟩ := hcut
    have la5 := At.lt a5
    have la6 := At.lt a6
    have hws := hbw.size
    go_upto_region 6 with (fail)
    go_cut [7] (fun s7 wx => ∃ c7 : Nat, s7 = .pointer (some ⟨c7, 0, none⟩) ∧ At wx c5 3 n1 ∧ At wx c6 3 n2 ∧ At wx c7 6 0 ∧ Below w.heap.size w wx)
    case first =>
      go_wp2_with (first | (go_at_call 18; ((with_reducible refine (rem_at h1 h2 hr _).mono ?_); rintro e w2 ⟨rfl, hb2⟩)))
      go_meet
      exact ⟨_, rfl, by repeat (first | (with_reducible assumption) | (with_reducible refine At.drew ?_) | (with_reducible refine At.put (k := 0) (n := 0) ?_) | (with_reducible refine At.far ?_ (by omega)) | (with_reducible refine At.new _ _ (by simp)) | (with_reducible refine At.alloc ?_ _) | (with_reducible refine At.later ?_ (by assumption))), by repeat (first | (with_reducible assumption) | (with_reducible refine At.drew ?_) | (with_reducible refine At.put (k := 0) (n := 0) ?_) | (with_reducible refine At.far ?_ (by omega)) | (with_reducible refine At.new _ _ (by simp)) | (with_reducible refine At.alloc ?_ _) | (with_reducible refine At.later ?_ (by assumption))), by repeat (first | (with_reducible assumption) | (with_reducible refine At.drew ?_) | (with_reducible refine At.put (k := 0) (n := 0) ?_) | (with_reducible refine At.far ?_ (by omega)) | (with_reducible refine At.new _ _ (by simp)) | (with_reducible refine At.alloc ?_ _) | (with_reducible refine At.later ?_ (by assumption))), by repeat (first | (with_reducible assumption) | (with_reducible refine blw_alloc _ ?_) | (with_reducible refine Below.drew ?_) | (with_reducible exact Below.refl _ _) | (with_reducible refine blw_put _ (by omega) ?_) | (with_reducible refine blw_call ?_ (by assumption)))⟩
    case rest =>
      clear hbw hws la5 a5 la6 a6
      obtain ⟨c7, rfl, a5, a6, a7, hbw⟩ := hcut
      have la5 := At.lt a5
      have la6 := At.lt a6
      have la7 := At.lt a7
      have hws := hbw.size
      go_wp2_with fail
      all_goals go_ret
      all_goals exact ⟨rfl, by repeat (first | (with_reducible assumption) | (with_reducible refine blw_alloc _ ?_) | (with_reducible refine Below.drew ?_) | (with_reducible exact Below.refl _ _) | (with_reducible refine blw_put _ (by omega) ?_) | (with_reducible refine blw_call ?_ (by assumption)))⟩

set_option maxRecDepth 100000 in
set_option maxHeartbeats 3200000 in
theorem parts_e0p (a b n1 n2 : Int) (ha : Hid (numV a = (3, n1))) (hb : Hid (numV b = (3, n2))) (h1 : Num 3 n1) (h2 : Num 3 n2) (_h11 : -9007199254740991 ≤ n1) (_h12 : n1 ≤ 9007199254740991) (_h21 : -9007199254740991 ≤ n2) (_h22 : n2 ≤ 9007199254740991) (_hz : n2 ≠ 0) (_hzb : (n2 == 0) = false) (pn qk qn : Int) (hrn : Num 3 0) (hp : Num 3 pn) (hqq : Num qk qn) (hr : Hid (remR 3 n1 3 n2 = (3, 0))) (hs : Hid (subR 3 n1 3 0 = (3, pn, true))) (hd : Hid (divR 3 pn 3 n2 = (qk, qn, true))) (hm : Hid (mulR qk qn 3 n2 = (3, pn, true))) (he : Hid (eqR 3 pn 3 pn = true)) (_hy : 0 < n2) (_hy2 : -n2 ≤ n2) (w : World) :
    Calls Tryd.prog 7 #[.int .i64 a, .int .i64 b] w fun e w' => e = .returned (.bool true) ∧ Below w.heap.size w w' := by
  go_enter Tryd.func7, Tryd.ntmps7
  go_upto_region 3 with (first | (go_at_call 9; ((with_reducible refine (fit_any _).mono ?_); rintro e w1 ⟨rfl, hbf⟩)))
  go_cut [5, 6] (fun s5 s6 wx => ∃ c5 c6 : Nat, s5 = .pointer (some ⟨c5, 0, none⟩) ∧ s6 = .pointer (some ⟨c6, 0, none⟩) ∧ At wx c5 3 n1 ∧ At wx c6 3 n2 ∧ Below w.heap.size w wx)
  case first =>
    go_wp2_with (first | (go_at_call 10; ((with_reducible refine (numOf_at _ _ _ ha _).mono ?_); rintro e w' ⟨rfl, rfl⟩)) | (go_at_call 10; ((with_reducible refine (numOf_at _ _ _ hb _).mono ?_); rintro e w' ⟨rfl, rfl⟩)))
    go_meet
    exact ⟨_, _, rfl, rfl, by repeat (first | (with_reducible assumption) | (with_reducible refine At.drew ?_) | (with_reducible refine At.put (k := 0) (n := 0) ?_) | (with_reducible refine At.far ?_ (by omega)) | (with_reducible refine At.new _ _ (by simp)) | (with_reducible refine At.alloc ?_ _) | (with_reducible refine At.later ?_ (by assumption))), by repeat (first | (with_reducible assumption) | (with_reducible refine At.drew ?_) | (with_reducible refine At.put (k := 0) (n := 0) ?_) | (with_reducible refine At.far ?_ (by omega)) | (with_reducible refine At.new _ _ (by simp)) | (with_reducible refine At.alloc ?_ _) | (with_reducible refine At.later ?_ (by assumption))), by repeat (first | (with_reducible assumption) | (with_reducible refine blw_alloc _ ?_) | (with_reducible refine Below.drew ?_) | (with_reducible exact Below.refl _ _) | (with_reducible refine blw_put _ (by omega) ?_) | (with_reducible refine blw_call ?_ (by assumption)))⟩
  case rest =>
    obtain ⟨c5, c6, rfl, rfl, a5, a6, hbw⟩ := hcut
    have la5 := At.lt a5
    have la6 := At.lt a6
    have hws := hbw.size
    go_upto_region 6 with (fail)
    go_cut [7] (fun s7 wx => ∃ c7 : Nat, s7 = .pointer (some ⟨c7, 0, none⟩) ∧ At wx c5 3 n1 ∧ At wx c6 3 n2 ∧ At wx c7 3 0 ∧ Below w.heap.size w wx)
    case first =>
      go_wp2_with (first | (go_at_call 18; ((with_reducible refine (rem_at h1 h2 hr _).mono ?_); rintro e w2 ⟨rfl, hb2⟩)))
      go_meet
      exact ⟨_, rfl, by repeat (first | (with_reducible assumption) | (with_reducible refine At.drew ?_) | (with_reducible refine At.put (k := 0) (n := 0) ?_) | (with_reducible refine At.far ?_ (by omega)) | (with_reducible refine At.new _ _ (by simp)) | (with_reducible refine At.alloc ?_ _) | (with_reducible refine At.later ?_ (by assumption))), by repeat (first | (with_reducible assumption) | (with_reducible refine At.drew ?_) | (with_reducible refine At.put (k := 0) (n := 0) ?_) | (with_reducible refine At.far ?_ (by omega)) | (with_reducible refine At.new _ _ (by simp)) | (with_reducible refine At.alloc ?_ _) | (with_reducible refine At.later ?_ (by assumption))), by repeat (first | (with_reducible assumption) | (with_reducible refine At.drew ?_) | (with_reducible refine At.put (k := 0) (n := 0) ?_) | (with_reducible refine At.far ?_ (by omega)) | (with_reducible refine At.new _ _ (by simp)) | (with_reducible refine At.alloc ?_ _) | (with_reducible refine At.later ?_ (by assumption))), by repeat (first | (with_reducible assumption) | (with_reducible refine blw_alloc _ ?_) | (with_reducible refine Below.drew ?_) | (with_reducible exact Below.refl _ _) | (with_reducible refine blw_put _ (by omega) ?_) | (with_reducible refine blw_call ?_ (by assumption)))⟩
    case rest =>
      clear hbw hws la5 a5 la6 a6
      obtain ⟨c7, rfl, a5, a6, a7, hbw⟩ := hcut
      have la5 := At.lt a5
      have la6 := At.lt a6
      have la7 := At.lt a7
      have hws := hbw.size
      go_upto_region 9 with (fail)
      go_cut [8, 9] (fun s8 s9 wx => ∃ c8 : Nat, s8 = .pointer (some ⟨c8, 0, none⟩) ∧ s9 = .bool true ∧ At wx c5 3 n1 ∧ At wx c6 3 n2 ∧ At wx c7 3 0 ∧ At wx c8 3 pn ∧ Below w.heap.size w wx)
      case first =>
        go_wp2_with (first | (go_at_call 13; ((with_reducible refine (sub_at h1 hrn hs _).mono ?_); rintro e w2 ⟨rfl, hb2⟩)))
        go_meet
        exact ⟨_, rfl, rfl, by repeat (first | (with_reducible assumption) | (with_reducible refine At.drew ?_) | (with_reducible refine At.put (k := 0) (n := 0) ?_) | (with_reducible refine At.far ?_ (by omega)) | (with_reducible refine At.new _ _ (by simp)) | (with_reducible refine At.alloc ?_ _) | (with_reducible refine At.later ?_ (by assumption))), by repeat (first | (with_reducible assumption) | (with_reducible refine At.drew ?_) | (with_reducible refine At.put (k := 0) (n := 0) ?_) | (with_reducible refine At.far ?_ (by omega)) | (with_reducible refine At.new _ _ (by simp)) | (with_reducible refine At.alloc ?_ _) | (with_reducible refine At.later ?_ (by assumption))), by repeat (first | (with_reducible assumption) | (with_reducible refine At.drew ?_) | (with_reducible refine At.put (k := 0) (n := 0) ?_) | (with_reducible refine At.far ?_ (by omega)) | (with_reducible refine At.new _ _ (by simp)) | (with_reducible refine At.alloc ?_ _) | (with_reducible refine At.later ?_ (by assumption))), by repeat (first | (with_reducible assumption) | (with_reducible refine At.drew ?_) | (with_reducible refine At.put (k := 0) (n := 0) ?_) | (with_reducible refine At.far ?_ (by omega)) | (with_reducible refine At.new _ _ (by simp)) | (with_reducible refine At.alloc ?_ _) | (with_reducible refine At.later ?_ (by assumption))), by repeat (first | (with_reducible assumption) | (with_reducible refine blw_alloc _ ?_) | (with_reducible refine Below.drew ?_) | (with_reducible exact Below.refl _ _) | (with_reducible refine blw_put _ (by omega) ?_) | (with_reducible refine blw_call ?_ (by assumption)))⟩
      case rest =>
        clear hbw hws la5 a5 la6 a6 la7 a7
        obtain ⟨c8, rfl, rfl, a5, a6, a7, a8, hbw⟩ := hcut
        have la5 := At.lt a5
        have la6 := At.lt a6
        have la7 := At.lt a7
        have la8 := At.lt a8
        have hws := hbw.size
        go_upto_region 12 with (fail)
        go_cut [10, 11] (fun s10 s11 wx => ∃ c10 : Nat, s10 = .pointer (some ⟨c10, 0, none⟩) ∧ s11 = .bool true ∧ At wx c5 3 n1 ∧ At wx c6 3 n2 ∧ At wx c7 3 0 ∧ At wx c8 3 pn ∧ At wx c10 qk qn ∧ Below w.heap.size w wx)
        case first =>
          go_wp2_with (first | (go_at_call 15; ((with_reducible refine (div_at hp h2 hd _).mono ?_); rintro e w2 ⟨rfl, hb2⟩)))
          go_meet
          exact ⟨_, rfl, rfl, by repeat (first | (with_reducible assumption) | (with_reducible refine At.drew ?_) | (with_reducible refine At.put (k := 0) (n := 0) ?_) | (with_reducible refine At.far ?_ (by omega)) | (with_reducible refine At.new _ _ (by simp)) | (with_reducible refine At.alloc ?_ _) | (with_reducible refine At.later ?_ (by assumption))), by repeat (first | (with_reducible assumption) | (with_reducible refine At.drew ?_) | (with_reducible refine At.put (k := 0) (n := 0) ?_) | (with_reducible refine At.far ?_ (by omega)) | (with_reducible refine At.new _ _ (by simp)) | (with_reducible refine At.alloc ?_ _) | (with_reducible refine At.later ?_ (by assumption))), by repeat (first | (with_reducible assumption) | (with_reducible refine At.drew ?_) | (with_reducible refine At.put (k := 0) (n := 0) ?_) | (with_reducible refine At.far ?_ (by omega)) | (with_reducible refine At.new _ _ (by simp)) | (with_reducible refine At.alloc ?_ _) | (with_reducible refine At.later ?_ (by assumption))), by repeat (first | (with_reducible assumption) | (with_reducible refine At.drew ?_) | (with_reducible refine At.put (k := 0) (n := 0) ?_) | (with_reducible refine At.far ?_ (by omega)) | (with_reducible refine At.new _ _ (by simp)) | (with_reducible refine At.alloc ?_ _) | (with_reducible refine At.later ?_ (by assumption))), by repeat (first | (with_reducible assumption) | (with_reducible refine At.drew ?_) | (with_reducible refine At.put (k := 0) (n := 0) ?_) | (with_reducible refine At.far ?_ (by omega)) | (with_reducible refine At.new _ _ (by simp)) | (with_reducible refine At.alloc ?_ _) | (with_reducible refine At.later ?_ (by assumption))), by repeat (first | (with_reducible assumption) | (with_reducible refine blw_alloc _ ?_) | (with_reducible refine Below.drew ?_) | (with_reducible exact Below.refl _ _) | (with_reducible refine blw_put _ (by omega) ?_) | (with_reducible refine blw_call ?_ (by assumption)))⟩
        case rest =>
          clear hbw hws la5 a5 la6 a6 la7 a7 la8 a8
          obtain ⟨c10, rfl, rfl, a5, a6, a7, a8, a10, hbw⟩ := hcut
          have la5 := At.lt a5
          have la6 := At.lt a6
          have la7 := At.lt a7
          have la8 := At.lt a8
          have la10 := At.lt a10
          have hws := hbw.size
          go_upto_region 13 with (fail)
          go_cut [12, 13] (fun s12 s13 wx => ∃ c12 : Nat, s12 = .pointer (some ⟨c12, 0, none⟩) ∧ s13 = .bool true ∧ At wx c5 3 n1 ∧ At wx c6 3 n2 ∧ At wx c7 3 0 ∧ At wx c8 3 pn ∧ At wx c10 qk qn ∧ At wx c12 3 pn ∧ Below w.heap.size w wx)
          case first =>
            go_wp2_with (first | (go_at_call 14; ((with_reducible refine (mul_at hqq h2 hm _).mono ?_); rintro e w2 ⟨rfl, hb2⟩)))
            go_meet
            exact ⟨_, rfl, rfl, by repeat (first | (with_reducible assumption) | (with_reducible refine At.drew ?_) | (with_reducible refine At.put (k := 0) (n := 0) ?_) | (with_reducible refine At.far ?_ (by omega)) | (with_reducible refine At.new _ _ (by simp)) | (with_reducible refine At.alloc ?_ _) | (with_reducible refine At.later ?_ (by assumption))), by repeat (first | (with_reducible assumption) | (with_reducible refine At.drew ?_) | (with_reducible refine At.put (k := 0) (n := 0) ?_) | (with_reducible refine At.far ?_ (by omega)) | (with_reducible refine At.new _ _ (by simp)) | (with_reducible refine At.alloc ?_ _) | (with_reducible refine At.later ?_ (by assumption))), by repeat (first | (with_reducible assumption) | (with_reducible refine At.drew ?_) | (with_reducible refine At.put (k := 0) (n := 0) ?_) | (with_reducible refine At.far ?_ (by omega)) | (with_reducible refine At.new _ _ (by simp)) | (with_reducible refine At.alloc ?_ _) | (with_reducible refine At.later ?_ (by assumption))), by repeat (first | (with_reducible assumption) | (with_reducible refine At.drew ?_) | (with_reducible refine At.put (k := 0) (n := 0) ?_) | (with_reducible refine At.far ?_ (by omega)) | (with_reducible refine At.new _ _ (by simp)) | (with_reducible refine At.alloc ?_ _) | (with_reducible refine At.later ?_ (by assumption))), by repeat (first | (with_reducible assumption) | (with_reducible refine At.drew ?_) | (with_reducible refine At.put (k := 0) (n := 0) ?_) | (with_reducible refine At.far ?_ (by omega)) | (with_reducible refine At.new _ _ (by simp)) | (with_reducible refine At.alloc ?_ _) | (with_reducible refine At.later ?_ (by assumption))), by repeat (first | (with_reducible assumption) | (with_reducible refine At.drew ?_) | (with_reducible refine At.put (k := 0) (n := 0) ?_) | (with_reducible refine At.far ?_ (by omega)) | (with_reducible refine At.new _ _ (by simp)) | (with_reducible refine At.alloc ?_ _) | (with_reducible refine At.later ?_ (by assumption))), by repeat (first | (with_reducible assumption) | (with_reducible refine blw_alloc _ ?_) | (with_reducible refine Below.drew ?_) | (with_reducible exact Below.refl _ _) | (with_reducible refine blw_put _ (by omega) ?_) | (with_reducible refine blw_call ?_ (by assumption)))⟩
          case rest =>
            clear hbw hws la5 a5 la6 a6 la7 a7 la8 a8 la10 a10
            obtain ⟨c12, rfl, rfl, a5, a6, a7, a8, a10, a12, hbw⟩ := hcut
            have la5 := At.lt a5
            have la6 := At.lt a6
            have la7 := At.lt a7
            have la8 := At.lt a8
            have la10 := At.lt a10
            have la12 := At.lt a12
            have hws := hbw.size
            go_wp2_with (first | (go_at_call 22; ((with_reducible refine (equal_at hp hp he _).mono ?_); rintro e w2 ⟨rfl, hb2⟩; have b5 : At w2 c5 3 n1 := (by repeat (first | (with_reducible assumption) | (with_reducible refine At.drew ?_) | (with_reducible refine At.put (k := 0) (n := 0) ?_) | (with_reducible refine At.far ?_ (by omega)) | (with_reducible refine At.new _ _ (by simp)) | (with_reducible refine At.alloc ?_ _) | (with_reducible refine At.later ?_ (by assumption)))); have b6 : At w2 c6 3 n2 := (by repeat (first | (with_reducible assumption) | (with_reducible refine At.drew ?_) | (with_reducible refine At.put (k := 0) (n := 0) ?_) | (with_reducible refine At.far ?_ (by omega)) | (with_reducible refine At.new _ _ (by simp)) | (with_reducible refine At.alloc ?_ _) | (with_reducible refine At.later ?_ (by assumption)))); have b7 : At w2 c7 3 0 := (by repeat (first | (with_reducible assumption) | (with_reducible refine At.drew ?_) | (with_reducible refine At.put (k := 0) (n := 0) ?_) | (with_reducible refine At.far ?_ (by omega)) | (with_reducible refine At.new _ _ (by simp)) | (with_reducible refine At.alloc ?_ _) | (with_reducible refine At.later ?_ (by assumption)))))))
            all_goals go_ret
            all_goals exact ⟨rfl, by repeat (first | (with_reducible assumption) | (with_reducible refine blw_alloc _ ?_) | (with_reducible refine Below.drew ?_) | (with_reducible exact Below.refl _ _) | (with_reducible refine blw_put _ (by omega) ?_) | (with_reducible refine blw_call ?_ (by assumption)))⟩

set_option maxRecDepth 100000 in
set_option maxHeartbeats 3200000 in
theorem parts_epp (a b n1 n2 : Int) (ha : Hid (numV a = (3, n1))) (hb : Hid (numV b = (3, n2))) (h1 : Num 3 n1) (h2 : Num 3 n2) (_h11 : -9007199254740991 ≤ n1) (_h12 : n1 ≤ 9007199254740991) (_h21 : -9007199254740991 ≤ n2) (_h22 : n2 ≤ 9007199254740991) (_hz : n2 ≠ 0) (_hzb : (n2 == 0) = false) (pn qk qn rn : Int) (hrn : Num 3 rn) (hp : Num 3 pn) (hqq : Num qk qn) (hr : Hid (remR 3 n1 3 n2 = (3, rn))) (hs : Hid (subR 3 n1 3 rn = (3, pn, true))) (hd : Hid (divR 3 pn 3 n2 = (qk, qn, true))) (hm : Hid (mulR qk qn 3 n2 = (3, pn, true))) (he : Hid (eqR 3 pn 3 pn = true)) (_hy : 0 < n2) (_hy2 : -n2 ≤ n2) (_hr0 : (rn == 0) = false) (_hr1 : 0 < rn) (_hr2 : -rn ≤ rn) (_hr3 : rn ≤ 9007199254740991) (_hx : 0 < n1) (_hl : rn < n2) (w : World) :
    Calls Tryd.prog 7 #[.int .i64 a, .int .i64 b] w fun e w' => e = .returned (.bool true) ∧ Below w.heap.size w w' := by
  go_enter Tryd.func7, Tryd.ntmps7
  go_upto_region 3 with (first | (go_at_call 9; ((with_reducible refine (fit_any _).mono ?_); rintro e w1 ⟨rfl, hbf⟩)))
  go_cut [5, 6] (fun s5 s6 wx => ∃ c5 c6 : Nat, s5 = .pointer (some ⟨c5, 0, none⟩) ∧ s6 = .pointer (some ⟨c6, 0, none⟩) ∧ At wx c5 3 n1 ∧ At wx c6 3 n2 ∧ Below w.heap.size w wx)
  case first =>
    go_wp2_with (first | (go_at_call 10; ((with_reducible refine (numOf_at _ _ _ ha _).mono ?_); rintro e w' ⟨rfl, rfl⟩)) | (go_at_call 10; ((with_reducible refine (numOf_at _ _ _ hb _).mono ?_); rintro e w' ⟨rfl, rfl⟩)))
    go_meet
    exact ⟨_, _, rfl, rfl, by repeat (first | (with_reducible assumption) | (with_reducible refine At.drew ?_) | (with_reducible refine At.put (k := 0) (n := 0) ?_) | (with_reducible refine At.far ?_ (by omega)) | (with_reducible refine At.new _ _ (by simp)) | (with_reducible refine At.alloc ?_ _) | (with_reducible refine At.later ?_ (by assumption))), by repeat (first | (with_reducible assumption) | (with_reducible refine At.drew ?_) | (with_reducible refine At.put (k := 0) (n := 0) ?_) | (with_reducible refine At.far ?_ (by omega)) | (with_reducible refine At.new _ _ (by simp)) | (with_reducible refine At.alloc ?_ _) | (with_reducible refine At.later ?_ (by assumption))), by repeat (first | (with_reducible assumption) | (with_reducible refine blw_alloc _ ?_) | (with_reducible refine Below.drew ?_) | (with_reducible exact Below.refl _ _) | (with_reducible refine blw_put _ (by omega) ?_) | (with_reducible refine blw_call ?_ (by assumption)))⟩
  case rest =>
    obtain ⟨c5, c6, rfl, rfl, a5, a6, hbw⟩ := hcut
    have la5 := At.lt a5
    have la6 := At.lt a6
    have hws := hbw.size
    go_upto_region 6 with (fail)
    go_cut [7] (fun s7 wx => ∃ c7 : Nat, s7 = .pointer (some ⟨c7, 0, none⟩) ∧ At wx c5 3 n1 ∧ At wx c6 3 n2 ∧ At wx c7 3 rn ∧ Below w.heap.size w wx)
    case first =>
      go_wp2_with (first | (go_at_call 18; ((with_reducible refine (rem_at h1 h2 hr _).mono ?_); rintro e w2 ⟨rfl, hb2⟩)))
      go_meet
      exact ⟨_, rfl, by repeat (first | (with_reducible assumption) | (with_reducible refine At.drew ?_) | (with_reducible refine At.put (k := 0) (n := 0) ?_) | (with_reducible refine At.far ?_ (by omega)) | (with_reducible refine At.new _ _ (by simp)) | (with_reducible refine At.alloc ?_ _) | (with_reducible refine At.later ?_ (by assumption))), by repeat (first | (with_reducible assumption) | (with_reducible refine At.drew ?_) | (with_reducible refine At.put (k := 0) (n := 0) ?_) | (with_reducible refine At.far ?_ (by omega)) | (with_reducible refine At.new _ _ (by simp)) | (with_reducible refine At.alloc ?_ _) | (with_reducible refine At.later ?_ (by assumption))), by repeat (first | (with_reducible assumption) | (with_reducible refine At.drew ?_) | (with_reducible refine At.put (k := 0) (n := 0) ?_) | (with_reducible refine At.far ?_ (by omega)) | (with_reducible refine At.new _ _ (by simp)) | (with_reducible refine At.alloc ?_ _) | (with_reducible refine At.later ?_ (by assumption))), by repeat (first | (with_reducible assumption) | (with_reducible refine blw_alloc _ ?_) | (with_reducible refine Below.drew ?_) | (with_reducible exact Below.refl _ _) | (with_reducible refine blw_put _ (by omega) ?_) | (with_reducible refine blw_call ?_ (by assumption)))⟩
    case rest =>
      clear hbw hws la5 a5 la6 a6
      obtain ⟨c7, rfl, a5, a6, a7, hbw⟩ := hcut
      have la5 := At.lt a5
      have la6 := At.lt a6
      have la7 := At.lt a7
      have hws := hbw.size
      go_upto_region 9 with (fail)
      go_cut [8, 9] (fun s8 s9 wx => ∃ c8 : Nat, s8 = .pointer (some ⟨c8, 0, none⟩) ∧ s9 = .bool true ∧ At wx c5 3 n1 ∧ At wx c6 3 n2 ∧ At wx c7 3 rn ∧ At wx c8 3 pn ∧ Below w.heap.size w wx)
      case first =>
        go_wp2_with (first | (go_at_call 13; ((with_reducible refine (sub_at h1 hrn hs _).mono ?_); rintro e w2 ⟨rfl, hb2⟩)))
        go_meet
        exact ⟨_, rfl, rfl, by repeat (first | (with_reducible assumption) | (with_reducible refine At.drew ?_) | (with_reducible refine At.put (k := 0) (n := 0) ?_) | (with_reducible refine At.far ?_ (by omega)) | (with_reducible refine At.new _ _ (by simp)) | (with_reducible refine At.alloc ?_ _) | (with_reducible refine At.later ?_ (by assumption))), by repeat (first | (with_reducible assumption) | (with_reducible refine At.drew ?_) | (with_reducible refine At.put (k := 0) (n := 0) ?_) | (with_reducible refine At.far ?_ (by omega)) | (with_reducible refine At.new _ _ (by simp)) | (with_reducible refine At.alloc ?_ _) | (with_reducible refine At.later ?_ (by assumption))), by repeat (first | (with_reducible assumption) | (with_reducible refine At.drew ?_) | (with_reducible refine At.put (k := 0) (n := 0) ?_) | (with_reducible refine At.far ?_ (by omega)) | (with_reducible refine At.new _ _ (by simp)) | (with_reducible refine At.alloc ?_ _) | (with_reducible refine At.later ?_ (by assumption))), by repeat (first | (with_reducible assumption) | (with_reducible refine At.drew ?_) | (with_reducible refine At.put (k := 0) (n := 0) ?_) | (with_reducible refine At.far ?_ (by omega)) | (with_reducible refine At.new _ _ (by simp)) | (with_reducible refine At.alloc ?_ _) | (with_reducible refine At.later ?_ (by assumption))), by repeat (first | (with_reducible assumption) | (with_reducible refine blw_alloc _ ?_) | (with_reducible refine Below.drew ?_) | (with_reducible exact Below.refl _ _) | (with_reducible refine blw_put _ (by omega) ?_) | (with_reducible refine blw_call ?_ (by assumption)))⟩
      case rest =>
        clear hbw hws la5 a5 la6 a6 la7 a7
        obtain ⟨c8, rfl, rfl, a5, a6, a7, a8, hbw⟩ := hcut
        have la5 := At.lt a5
        have la6 := At.lt a6
        have la7 := At.lt a7
        have la8 := At.lt a8
        have hws := hbw.size
        go_upto_region 12 with (fail)
        go_cut [10, 11] (fun s10 s11 wx => ∃ c10 : Nat, s10 = .pointer (some ⟨c10, 0, none⟩) ∧ s11 = .bool true ∧ At wx c5 3 n1 ∧ At wx c6 3 n2 ∧ At wx c7 3 rn ∧ At wx c8 3 pn ∧ At wx c10 qk qn ∧ Below w.heap.size w wx)
        case first =>
          go_wp2_with (first | (go_at_call 15; ((with_reducible refine (div_at hp h2 hd _).mono ?_); rintro e w2 ⟨rfl, hb2⟩)))
          go_meet
          exact ⟨_, rfl, rfl, by repeat (first | (with_reducible assumption) | (with_reducible refine At.drew ?_) | (with_reducible refine At.put (k := 0) (n := 0) ?_) | (with_reducible refine At.far ?_ (by omega)) | (with_reducible refine At.new _ _ (by simp)) | (with_reducible refine At.alloc ?_ _) | (with_reducible refine At.later ?_ (by assumption))), by repeat (first | (with_reducible assumption) | (with_reducible refine At.drew ?_) | (with_reducible refine At.put (k := 0) (n := 0) ?_) | (with_reducible refine At.far ?_ (by omega)) | (with_reducible refine At.new _ _ (by simp)) | (with_reducible refine At.alloc ?_ _) | (with_reducible refine At.later ?_ (by assumption))), by repeat (first | (with_reducible assumption) | (with_reducible refine At.drew ?_) | (with_reducible refine At.put (k := 0) (n := 0) ?_) | (with_reducible refine At.far ?_ (by omega)) | (with_reducible refine At.new _ _ (by simp)) | (with_reducible refine At.alloc ?_ _) | (with_reducible refine At.later ?_ (by assumption))), by repeat (first | (with_reducible assumption) | (with_reducible refine At.drew ?_) | (with_reducible refine At.put (k := 0) (n := 0) ?_) | (with_reducible refine At.far ?_ (by omega)) | (with_reducible refine At.new _ _ (by simp)) | (with_reducible refine At.alloc ?_ _) | (with_reducible refine At.later ?_ (by assumption))), by repeat (first | (with_reducible assumption) | (with_reducible refine At.drew ?_) | (with_reducible refine At.put (k := 0) (n := 0) ?_) | (with_reducible refine At.far ?_ (by omega)) | (with_reducible refine At.new _ _ (by simp)) | (with_reducible refine At.alloc ?_ _) | (with_reducible refine At.later ?_ (by assumption))), by repeat (first | (with_reducible assumption) | (with_reducible refine blw_alloc _ ?_) | (with_reducible refine Below.drew ?_) | (with_reducible exact Below.refl _ _) | (with_reducible refine blw_put _ (by omega) ?_) | (with_reducible refine blw_call ?_ (by assumption)))⟩
        case rest =>
          clear hbw hws la5 a5 la6 a6 la7 a7 la8 a8
          obtain ⟨c10, rfl, rfl, a5, a6, a7, a8, a10, hbw⟩ := hcut
          have la5 := At.lt a5
          have la6 := At.lt a6
          have la7 := At.lt a7
          have la8 := At.lt a8
          have la10 := At.lt a10
          have hws := hbw.size
          go_upto_region 13 with (fail)
          go_cut [12, 13] (fun s12 s13 wx => ∃ c12 : Nat, s12 = .pointer (some ⟨c12, 0, none⟩) ∧ s13 = .bool true ∧ At wx c5 3 n1 ∧ At wx c6 3 n2 ∧ At wx c7 3 rn ∧ At wx c8 3 pn ∧ At wx c10 qk qn ∧ At wx c12 3 pn ∧ Below w.heap.size w wx)
          case first =>
            go_wp2_with (first | (go_at_call 14; ((with_reducible refine (mul_at hqq h2 hm _).mono ?_); rintro e w2 ⟨rfl, hb2⟩)))
            go_meet
            exact ⟨_, rfl, rfl, by repeat (first | (with_reducible assumption) | (with_reducible refine At.drew ?_) | (with_reducible refine At.put (k := 0) (n := 0) ?_) | (with_reducible refine At.far ?_ (by omega)) | (with_reducible refine At.new _ _ (by simp)) | (with_reducible refine At.alloc ?_ _) | (with_reducible refine At.later ?_ (by assumption))), by repeat (first | (with_reducible assumption) | (with_reducible refine At.drew ?_) | (with_reducible refine At.put (k := 0) (n := 0) ?_) | (with_reducible refine At.far ?_ (by omega)) | (with_reducible refine At.new _ _ (by simp)) | (with_reducible refine At.alloc ?_ _) | (with_reducible refine At.later ?_ (by assumption))), by repeat (first | (with_reducible assumption) | (with_reducible refine At.drew ?_) | (with_reducible refine At.put (k := 0) (n := 0) ?_) | (with_reducible refine At.far ?_ (by omega)) | (with_reducible refine At.new _ _ (by simp)) | (with_reducible refine At.alloc ?_ _) | (with_reducible refine At.later ?_ (by assumption))), by repeat (first | (with_reducible assumption) | (with_reducible refine At.drew ?_) | (with_reducible refine At.put (k := 0) (n := 0) ?_) | (with_reducible refine At.far ?_ (by omega)) | (with_reducible refine At.new _ _ (by simp)) | (with_reducible refine At.alloc ?_ _) | (with_reducible refine At.later ?_ (by assumption))), by repeat (first | (with_reducible assumption) | (with_reducible refine At.drew ?_) | (with_reducible refine At.put (k := 0) (n := 0) ?_) | (with_reducible refine At.far ?_ (by omega)) | (with_reducible refine At.new _ _ (by simp)) | (with_reducible refine At.alloc ?_ _) | (with_reducible refine At.later ?_ (by assumption))), by repeat (first | (with_reducible assumption) | (with_reducible refine At.drew ?_) | (with_reducible refine At.put (k := 0) (n := 0) ?_) | (with_reducible refine At.far ?_ (by omega)) | (with_reducible refine At.new _ _ (by simp)) | (with_reducible refine At.alloc ?_ _) | (with_reducible refine At.later ?_ (by assumption))), by repeat (first | (with_reducible assumption) | (with_reducible refine blw_alloc _ ?_) | (with_reducible refine Below.drew ?_) | (with_reducible exact Below.refl _ _) | (with_reducible refine blw_put _ (by omega) ?_) | (with_reducible refine blw_call ?_ (by assumption)))⟩
          case rest =>
            clear hbw hws la5 a5 la6 a6 la7 a7 la8 a8 la10 a10
            obtain ⟨c12, rfl, rfl, a5, a6, a7, a8, a10, a12, hbw⟩ := hcut
            have la5 := At.lt a5
            have la6 := At.lt a6
            have la7 := At.lt a7
            have la8 := At.lt a8
            have la10 := At.lt a10
            have la12 := At.lt a12
            have hws := hbw.size
            go_wp2_with (first | (go_at_call 22; ((with_reducible refine (equal_at hp hp he _).mono ?_); rintro e w2 ⟨rfl, hb2⟩; have b5 : At w2 c5 3 n1 := (by repeat (first | (with_reducible assumption) | (with_reducible refine At.drew ?_) | (with_reducible refine At.put (k := 0) (n := 0) ?_) | (with_reducible refine At.far ?_ (by omega)) | (with_reducible refine At.new _ _ (by simp)) | (with_reducible refine At.alloc ?_ _) | (with_reducible refine At.later ?_ (by assumption)))); have b6 : At w2 c6 3 n2 := (by repeat (first | (with_reducible assumption) | (with_reducible refine At.drew ?_) | (with_reducible refine At.put (k := 0) (n := 0) ?_) | (with_reducible refine At.far ?_ (by omega)) | (with_reducible refine At.new _ _ (by simp)) | (with_reducible refine At.alloc ?_ _) | (with_reducible refine At.later ?_ (by assumption)))); have b7 : At w2 c7 3 rn := (by repeat (first | (with_reducible assumption) | (with_reducible refine At.drew ?_) | (with_reducible refine At.put (k := 0) (n := 0) ?_) | (with_reducible refine At.far ?_ (by omega)) | (with_reducible refine At.new _ _ (by simp)) | (with_reducible refine At.alloc ?_ _) | (with_reducible refine At.later ?_ (by assumption)))))))
            all_goals go_ret
            all_goals exact ⟨rfl, by repeat (first | (with_reducible assumption) | (with_reducible refine blw_alloc _ ?_) | (with_reducible refine Below.drew ?_) | (with_reducible exact Below.refl _ _) | (with_reducible refine blw_put _ (by omega) ?_) | (with_reducible refine blw_call ?_ (by assumption)))⟩

set_option maxRecDepth 100000 in
set_option maxHeartbeats 3200000 in
theorem parts_enp (a b n1 n2 : Int) (ha : Hid (numV a = (3, n1))) (hb : Hid (numV b = (3, n2))) (h1 : Num 3 n1) (h2 : Num 3 n2) (_h11 : -9007199254740991 ≤ n1) (_h12 : n1 ≤ 9007199254740991) (_h21 : -9007199254740991 ≤ n2) (_h22 : n2 ≤ 9007199254740991) (_hz : n2 ≠ 0) (_hzb : (n2 == 0) = false) (pn qk qn rn : Int) (hrn : Num 3 rn) (hp : Num 3 pn) (hqq : Num qk qn) (hr : Hid (remR 3 n1 3 n2 = (3, rn))) (hs : Hid (subR 3 n1 3 rn = (3, pn, true))) (hd : Hid (divR 3 pn 3 n2 = (qk, qn, true))) (hm : Hid (mulR qk qn 3 n2 = (3, pn, true))) (he : Hid (eqR 3 pn 3 pn = true)) (_hy : 0 < n2) (_hy2 : -n2 ≤ n2) (_hr0 : (rn == 0) = false) (_hr1 : rn < 0) (_hr2 : rn < -rn) (_hr3 : -9007199254740991 ≤ rn) (_hx : n1 < 0) (_hl : -rn < n2) (w : World) :
    Calls Tryd.prog 7 #[.int .i64 a, .int .i64 b] w fun e w' => e = .returned (.bool true) ∧ Below w.heap.size w w' := by
  go_enter Tryd.func7, Tryd.ntmps7
  go_upto_region 3 with (first | (go_at_call 9; ((with_reducible refine (fit_any _).mono ?_); rintro e w1 ⟨rfl, hbf⟩)))
  go_cut [5, 6] (fun s5 s6 wx => ∃ c5 c6 : Nat, s5 = .pointer (some ⟨c5, 0, none⟩) ∧ s6 = .pointer (some ⟨c6, 0, none⟩) ∧ At wx c5 3 n1 ∧ At wx c6 3 n2 ∧ Below w.heap.size w wx)
  case first =>
    go_wp2_with (first | (go_at_call 10; ((with_reducible refine (numOf_at _ _ _ ha _).mono ?_); rintro e w' ⟨rfl, rfl⟩)) | (go_at_call 10; ((with_reducible refine (numOf_at _ _ _ hb _).mono ?_); rintro e w' ⟨rfl, rfl⟩)))
    go_meet
    exact ⟨_, _, rfl, rfl, by repeat (first | (with_reducible assumption) | (with_reducible refine At.drew ?_) | (with_reducible refine At.put (k := 0) (n := 0) ?_) | (with_reducible refine At.far ?_ (by omega)) | (with_reducible refine At.new _ _ (by simp)) | (with_reducible refine At.alloc ?_ _) | (with_reducible refine At.later ?_ (by assumption))), by repeat (first | (with_reducible assumption) | (with_reducible refine At.drew ?_) | (with_reducible refine At.put (k := 0) (n := 0) ?_) | (with_reducible refine At.far ?_ (by omega)) | (with_reducible refine At.new _ _ (by simp)) | (with_reducible refine At.alloc ?_ _) | (with_reducible refine At.later ?_ (by assumption))), by repeat (first | (with_reducible assumption) | (with_reducible refine blw_alloc _ ?_) | (with_reducible refine Below.drew ?_) | (with_reducible exact Below.refl _ _) | (with_reducible refine blw_put _ (by omega) ?_) | (with_reducible refine blw_call ?_ (by assumption)))⟩
  case rest =>
    obtain ⟨c5, c6, rfl, rfl, a5, a6, hbw⟩ := hcut
    have la5 := At.lt a5
    have la6 := At.lt a6
    have hws := hbw.size
    go_upto_region 6 with (fail)
    go_cut [7] (fun s7 wx => ∃ c7 : Nat, s7 = .pointer (some ⟨c7, 0, none⟩) ∧ At wx c5 3 n1 ∧ At wx c6 3 n2 ∧ At wx c7 3 rn ∧ Below w.heap.size w wx)
    case first =>
      go_wp2_with (first | (go_at_call 18; ((with_reducible refine (rem_at h1 h2 hr _).mono ?_); rintro e w2 ⟨rfl, hb2⟩)))
      go_meet
      exact ⟨_, rfl, by repeat (first | (with_reducible assumption) | (with_reducible refine At.drew ?_) | (with_reducible refine At.put (k := 0) (n := 0) ?_) | (with_reducible refine At.far ?_ (by omega)) | (with_reducible refine At.new _ _ (by simp)) | (with_reducible refine At.alloc ?_ _) | (with_reducible refine At.later ?_ (by assumption))), by repeat (first | (with_reducible assumption) | (with_reducible refine At.drew ?_) | (with_reducible refine At.put (k := 0) (n := 0) ?_) | (with_reducible refine At.far ?_ (by omega)) | (with_reducible refine At.new _ _ (by simp)) | (with_reducible refine At.alloc ?_ _) | (with_reducible refine At.later ?_ (by assumption))), by repeat (first | (with_reducible assumption) | (with_reducible refine At.drew ?_) | (with_reducible refine At.put (k := 0) (n := 0) ?_) | (with_reducible refine At.far ?_ (by omega)) | (with_reducible refine At.new _ _ (by simp)) | (with_reducible refine At.alloc ?_ _) | (with_reducible refine At.later ?_ (by assumption))), by repeat (first | (with_reducible assumption) | (with_reducible refine blw_alloc _ ?_) | (with_reducible refine Below.drew ?_) | (with_reducible exact Below.refl _ _) | (with_reducible refine blw_put _ (by omega) ?_) | (with_reducible refine blw_call ?_ (by assumption)))⟩
    case rest =>
      clear hbw hws la5 a5 la6 a6
      obtain ⟨c7, rfl, a5, a6, a7, hbw⟩ := hcut
      have la5 := At.lt a5
      have la6 := At.lt a6
      have la7 := At.lt a7
      have hws := hbw.size
      go_upto_region 9 with (fail)
      go_cut [8, 9] (fun s8 s9 wx => ∃ c8 : Nat, s8 = .pointer (some ⟨c8, 0, none⟩) ∧ s9 = .bool true ∧ At wx c5 3 n1 ∧ At wx c6 3 n2 ∧ At wx c7 3 rn ∧ At wx c8 3 pn ∧ Below w.heap.size w wx)
      case first =>
        go_wp2_with (first | (go_at_call 13; ((with_reducible refine (sub_at h1 hrn hs _).mono ?_); rintro e w2 ⟨rfl, hb2⟩)))
        go_meet
        exact ⟨_, rfl, rfl, by repeat (first | (with_reducible assumption) | (with_reducible refine At.drew ?_) | (with_reducible refine At.put (k := 0) (n := 0) ?_) | (with_reducible refine At.far ?_ (by omega)) | (with_reducible refine At.new _ _ (by simp)) | (with_reducible refine At.alloc ?_ _) | (with_reducible refine At.later ?_ (by assumption))), by repeat (first | (with_reducible assumption) | (with_reducible refine At.drew ?_) | (with_reducible refine At.put (k := 0) (n := 0) ?_) | (with_reducible refine At.far ?_ (by omega)) | (with_reducible refine At.new _ _ (by simp)) | (with_reducible refine At.alloc ?_ _) | (with_reducible refine At.later ?_ (by assumption))), by repeat (first | (with_reducible assumption) | (with_reducible refine At.drew ?_) | (with_reducible refine At.put (k := 0) (n := 0) ?_) | (with_reducible refine At.far ?_ (by omega)) | (with_reducible refine At.new _ _ (by simp)) | (with_reducible refine At.alloc ?_ _) | (with_reducible refine At.later ?_ (by assumption))), by repeat (first | (with_reducible assumption) | (with_reducible refine At.drew ?_) | (with_reducible refine At.put (k := 0) (n := 0) ?_) | (with_reducible refine At.far ?_ (by omega)) | (with_reducible refine At.new _ _ (by simp)) | (with_reducible refine At.alloc ?_ _) | (with_reducible refine At.later ?_ (by assumption))), by repeat (first | (with_reducible assumption) | (with_reducible refine blw_alloc _ ?_) | (with_reducible refine Below.drew ?_) | (with_reducible exact Below.refl _ _) | (with_reducible refine blw_put _ (by omega) ?_) | (with_reducible refine blw_call ?_ (by assumption)))⟩
      case rest =>
        clear hbw hws la5 a5 la6 a6 la7 a7
        obtain ⟨c8, rfl, rfl, a5, a6, a7, a8, hbw⟩ := hcut
        have la5 := At.lt a5
        have la6 := At.lt a6
        have la7 := At.lt a7
        have la8 := At.lt a8
        have hws := hbw.size
        go_upto_region 12 with (fail)
        go_cut [10, 11] (fun s10 s11 wx => ∃ c10 : Nat, s10 = .pointer (some ⟨c10, 0, none⟩) ∧ s11 = .bool true ∧ At wx c5 3 n1 ∧ At wx c6 3 n2 ∧ At wx c7 3 rn ∧ At wx c8 3 pn ∧ At wx c10 qk qn ∧ Below w.heap.size w wx)
        case first =>
          go_wp2_with (first | (go_at_call 15; ((with_reducible refine (div_at hp h2 hd _).mono ?_); rintro e w2 ⟨rfl, hb2⟩)))
          go_meet
          exact ⟨_, rfl, rfl, by repeat (first | (with_reducible assumption) | (with_reducible refine At.drew ?_) | (with_reducible refine At.put (k := 0) (n := 0) ?_) | (with_reducible refine At.far ?_ (by omega)) | (with_reducible refine At.new _ _ (by simp)) | (with_reducible refine At.alloc ?_ _) | (with_reducible refine At.later ?_ (by assumption))), by repeat (first | (with_reducible assumption) | (with_reducible refine At.drew ?_) | (with_reducible refine At.put (k := 0) (n := 0) ?_) | (with_reducible refine At.far ?_ (by omega)) | (with_reducible refine At.new _ _ (by simp)) | (with_reducible refine At.alloc ?_ _) | (with_reducible refine At.later ?_ (by assumption))), by repeat (first | (with_reducible assumption) | (with_reducible refine At.drew ?_) | (with_reducible refine At.put (k := 0) (n := 0) ?_) | (with_reducible refine At.far ?_ (by omega)) | (with_reducible refine At.new _ _ (by simp)) | (with_reducible refine At.alloc ?_ _) | (with_reducible refine At.later ?_ (by assumption))), by repeat (first | (with_reducible assumption) | (with_reducible refine At.drew ?_) | (with_reducible refine At.put (k := 0) (n := 0) ?_) | (with_reducible refine At.far ?_ (by omega)) | (with_reducible refine At.new _ _ (by simp)) | (with_reducible refine At.alloc ?_ _) | (with_reducible refine At.later ?_ (by assumption))), by repeat (first | (with_reducible assumption) | (with_reducible refine At.drew ?_) | (with_reducible refine At.put (k := 0) (n := 0) ?_) | (with_reducible refine At.far ?_ (by omega)) | (with_reducible refine At.new _ _ (by simp)) | (with_reducible refine At.alloc ?_ _) | (with_reducible refine At.later ?_ (by assumption))), by repeat (first | (with_reducible assumption) | (with_reducible refine blw_alloc _ ?_) | (with_reducible refine Below.drew ?_) | (with_reducible exact Below.refl _ _) | (with_reducible refine blw_put _ (by omega) ?_) | (with_reducible refine blw_call ?_ (by assumption)))⟩
        case rest =>
          clear hbw hws la5 a5 la6 a6 la7 a7 la8 a8
          obtain ⟨c10, rfl, rfl, a5, a6, a7, a8, a10, hbw⟩ := hcut
          have la5 := At.lt a5
          have la6 := At.lt a6
          have la7 := At.lt a7
          have la8 := At.lt a8
          have la10 := At.lt a10
          have hws := hbw.size
          go_upto_region 13 with (fail)
          go_cut [12, 13] (fun s12 s13 wx => ∃ c12 : Nat, s12 = .pointer (some ⟨c12, 0, none⟩) ∧ s13 = .bool true ∧ At wx c5 3 n1 ∧ At wx c6 3 n2 ∧ At wx c7 3 rn ∧ At wx c8 3 pn ∧ At wx c10 qk qn ∧ At wx c12 3 pn ∧ Below w.heap.size w wx)
          case first =>
            go_wp2_with (first | (go_at_call 14; ((with_reducible refine (mul_at hqq h2 hm _).mono ?_); rintro e w2 ⟨rfl, hb2⟩)))
            go_meet
            exact ⟨_, rfl, rfl, by repeat (first | (with_reducible assumption) | (with_reducible refine At.drew ?_) | (with_reducible refine At.put (k := 0) (n := 0) ?_) | (with_reducible refine At.far ?_ (by omega)) | (with_reducible refine At.new _ _ (by simp)) | (with_reducible refine At.alloc ?_ _) | (with_reducible refine At.later ?_ (by assumption))), by repeat (first | (with_reducible assumption) | (with_reducible refine At.drew ?_) | (with_reducible refine At.put (k := 0) (n := 0) ?_) | (with_reducible refine At.far ?_ (by omega)) | (with_reducible refine At.new _ _ (by simp)) | (with_reducible refine At.alloc ?_ _) | (with_reducible refine At.later ?_ (by assumption))), by repeat (first | (with_reducible assumption) | (with_reducible refine At.drew ?_) | (with_reducible refine At.put (k := 0) (n := 0) ?_) | (with_reducible refine At.far ?_ (by omega)) | (with_reducible refine At.new _ _ (by simp)) | (with_reducible refine At.alloc ?_ _) | (with_reducible refine At.later ?_ (by assumption))), by repeat (first | (with_reducible assumption) | (with_reducible refine At.drew ?_) | (with_reducible refine At.put (k := 0) (n := 0) ?_) | (with_reducible refine At.far ?_ (by omega)) | (with_reducible refine At.new _ _ (by simp)) | (with_reducible refine At.alloc ?_ _) | (with_reducible refine At.later ?_ (by assumption))), by repeat (first | (with_reducible assumption) | (with_reducible refine At.drew ?_) | (with_reducible refine At.put (k := 0) (n := 0) ?_) | (with_reducible refine At.far ?_ (by omega)) | (with_reducible refine At.new _ _ (by simp)) | (with_reducible refine At.alloc ?_ _) | (with_reducible refine At.later ?_ (by assumption))), by repeat (first | (with_reducible assumption) | (with_reducible refine At.drew ?_) | (with_reducible refine At.put (k := 0) (n := 0) ?_) | (with_reducible refine At.far ?_ (by omega)) | (with_reducible refine At.new _ _ (by simp)) | (with_reducible refine At.alloc ?_ _) | (with_reducible refine At.later ?_ (by assumption))), by repeat (first | (with_reducible assumption) | (with_reducible refine blw_alloc _ ?_) | (with_reducible refine Below.drew ?_) | (with_reducible exact Below.refl _ _) | (with_reducible refine blw_put _ (by omega) ?_) | (with_reducible refine blw_call ?_ (by assumption)))⟩
          case rest =>
            clear hbw hws la5 a5 la6 a6 la7 a7 la8 a8 la10 a10
            obtain ⟨c12, rfl, rfl, a5, a6, a7, a8, a10, a12, hbw⟩ := hcut
            have la5 := At.lt a5
            have la6 := At.lt a6
            have la7 := At.lt a7
            have la8 := At.lt a8
            have la10 := At.lt a10
            have la12 := At.lt a12
            have hws := hbw.size
            go_wp2_with (first | (go_at_call 22; ((with_reducible refine (equal_at hp hp he _).mono ?_); rintro e w2 ⟨rfl, hb2⟩; have b5 : At w2 c5 3 n1 := (by repeat (first | (with_reducible assumption) | (with_reducible refine At.drew ?_) | (with_reducible refine At.put (k := 0) (n := 0) ?_) | (with_reducible refine At.far ?_ (by omega)) | (with_reducible refine At.new _ _ (by simp)) | (with_reducible refine At.alloc ?_ _) | (with_reducible refine At.later ?_ (by assumption)))); have b6 : At w2 c6 3 n2 := (by repeat (first | (with_reducible assumption) | (with_reducible refine At.drew ?_) | (with_reducible refine At.put (k := 0) (n := 0) ?_) | (with_reducible refine At.far ?_ (by omega)) | (with_reducible refine At.new _ _ (by simp)) | (with_reducible refine At.alloc ?_ _) | (with_reducible refine At.later ?_ (by assumption)))); have b7 : At w2 c7 3 rn := (by repeat (first | (with_reducible assumption) | (with_reducible refine At.drew ?_) | (with_reducible refine At.put (k := 0) (n := 0) ?_) | (with_reducible refine At.far ?_ (by omega)) | (with_reducible refine At.new _ _ (by simp)) | (with_reducible refine At.alloc ?_ _) | (with_reducible refine At.later ?_ (by assumption)))))))
            all_goals go_ret
            all_goals exact ⟨rfl, by repeat (first | (with_reducible assumption) | (with_reducible refine blw_alloc _ ?_) | (with_reducible refine Below.drew ?_) | (with_reducible exact Below.refl _ _) | (with_reducible refine blw_put _ (by omega) ?_) | (with_reducible refine blw_call ?_ (by assumption)))⟩

set_option maxRecDepth 100000 in
set_option maxHeartbeats 3200000 in
theorem parts_e0n (a b n1 n2 : Int) (ha : Hid (numV a = (3, n1))) (hb : Hid (numV b = (3, n2))) (h1 : Num 3 n1) (h2 : Num 3 n2) (_h11 : -9007199254740991 ≤ n1) (_h12 : n1 ≤ 9007199254740991) (_h21 : -9007199254740991 ≤ n2) (_h22 : n2 ≤ 9007199254740991) (_hz : n2 ≠ 0) (_hzb : (n2 == 0) = false) (pn qk qn : Int) (hrn : Num 3 0) (hp : Num 3 pn) (hqq : Num qk qn) (hr : Hid (remR 3 n1 3 n2 = (3, 0))) (hs : Hid (subR 3 n1 3 0 = (3, pn, true))) (hd : Hid (divR 3 pn 3 n2 = (qk, qn, true))) (hm : Hid (mulR qk qn 3 n2 = (3, pn, true))) (he : Hid (eqR 3 pn 3 pn = true)) (_hy : n2 < 0) (_hy2 : n2 < -n2) (w : World) :
    Calls Tryd.prog 7 #[.int .i64 a, .int .i64 b] w fun e w' => e = .returned (.bool true) ∧ Below w.heap.size w w' := by
  go_enter Tryd.func7, Tryd.ntmps7
  go_upto_region 3 with (first | (go_at_call 9; ((with_reducible refine (fit_any _).mono ?_); rintro e w1 ⟨rfl, hbf⟩)))
  go_cut [5, 6] (fun s5 s6 wx => ∃ c5 c6 : Nat, s5 = .pointer (some ⟨c5, 0, none⟩) ∧ s6 = .pointer (some ⟨c6, 0, none⟩) ∧ At wx c5 3 n1 ∧ At wx c6 3 n2 ∧ Below w.heap.size w wx)
  case first =>
    go_wp2_with (first | (go_at_call 10; ((with_reducible refine (numOf_at _ _ _ ha _).mono ?_); rintro e w' ⟨rfl, rfl⟩)) | (go_at_call 10; ((with_reducible refine (numOf_at _ _ _ hb _).mono ?_); rintro e w' ⟨rfl, rfl⟩)))
    go_meet
    exact ⟨_, _, rfl, rfl, by repeat (first | (with_reducible assumption) | (with_reducible refine At.drew ?_) | (with_reducible refine At.put (k := 0) (n := 0) ?_) | (with_reducible refine At.far ?_ (by omega)) | (with_reducible refine At.new _ _ (by simp)) | (with_reducible refine At.alloc ?_ _) | (with_reducible refine At.later ?_ (by assumption))), by repeat (first | (with_reducible assumption) | (with_reducible refine At.drew ?_) | (with_reducible refine At.put (k := 0) (n := 0) ?_) | (with_reducible refine At.far ?_ (by omega)) | (with_reducible refine At.new _ _ (by simp)) | (with_reducible refine At.alloc ?_ _) | (with_reducible refine At.later ?_ (by assumption))), by repeat (first | (with_reducible assumption) | (with_reducible refine blw_alloc _ ?_) | (with_reducible refine Below.drew ?_) | (with_reducible exact Below.refl _ _) | (with_reducible refine blw_put _ (by omega) ?_) | (with_reducible refine blw_call ?_ (by assumption)))⟩
  case rest =>
    obtain ⟨c5, c6, rfl, rfl, a5, a6, hbw⟩ := hcut
    have la5 := At.lt a5
    have la6 := At.lt a6
    have hws := hbw.size
    go_upto_region 6 with (fail)
    go_cut [7] (fun s7 wx => ∃ c7 : Nat, s7 = .pointer (some ⟨c7, 0, none⟩) ∧ At wx c5 3 n1 ∧ At wx c6 3 n2 ∧ At wx c7 3 0 ∧ Below w.heap.size w wx)
    case first =>
      go_wp2_with (first | (go_at_call 18; ((with_reducible refine (rem_at h1 h2 hr _).mono ?_); rintro e w2 ⟨rfl, hb2⟩)))
      go_meet
      exact ⟨_, rfl, by repeat (first | (with_reducible assumption) | (with_reducible refine At.drew ?_) | (with_reducible refine At.put (k := 0) (n := 0) ?_) | (with_reducible refine At.far ?_ (by omega)) | (with_reducible refine At.new _ _ (by simp)) | (with_reducible refine At.alloc ?_ _) | (with_reducible refine At.later ?_ (by assumption))), by repeat (first | (with_reducible assumption) | (with_reducible refine At.drew ?_) | (with_reducible refine At.put (k := 0) (n := 0) ?_) | (with_reducible refine At.far ?_ (by omega)) | (with_reducible refine At.new _ _ (by simp)) | (with_reducible refine At.alloc ?_ _) | (with_reducible refine At.later ?_ (by assumption))), by repeat (first | (with_reducible assumption) | (with_reducible refine At.drew ?_) | (with_reducible refine At.put (k := 0) (n := 0) ?_) | (with_reducible refine At.far ?_ (by omega)) | (with_reducible refine At.new _ _ (by simp)) | (with_reducible refine At.alloc ?_ _) | (with_reducible refine At.later ?_ (by assumption))), by repeat (first | (with_reducible assumption) | (with_reducible refine blw_alloc _ ?_) | (with_reducible refine Below.drew ?_) | (with_reducible exact Below.refl _ _) | (with_reducible refine blw_put _ (by omega) ?_) | (with_reducible refine blw_call ?_ (by assumption)))⟩
    case rest =>
      clear hbw hws la5 a5 la6 a6
      obtain ⟨c7, rfl, a5, a6, a7, hbw⟩ := hcut
      have la5 := At.lt a5
      have la6 := At.lt a6
      have la7 := At.lt a7
      have hws := hbw.size
      go_upto_region 9 with (fail)
      go_cut [8, 9] (fun s8 s9 wx => ∃ c8 : Nat, s8 = .pointer (some ⟨c8, 0, none⟩) ∧ s9 = .bool true ∧ At wx c5 3 n1 ∧ At wx c6 3 n2 ∧ At wx c7 3 0 ∧ At wx c8 3 pn ∧ Below w.heap.size w wx)
      case first =>
        go_wp2_with (first | (go_at_call 13; ((with_reducible refine (sub_at h1 hrn hs _).mono ?_); rintro e w2 ⟨rfl, hb2⟩)))
        go_meet
        exact ⟨_, rfl, rfl, by repeat (first | (with_reducible assumption) | (with_reducible refine At.drew ?_) | (with_reducible refine At.put (k := 0) (n := 0) ?_) | (with_reducible refine At.far ?_ (by omega)) | (with_reducible refine At.new _ _ (by simp)) | (with_reducible refine At.alloc ?_ _) | (with_reducible refine At.later ?_ (by assumption))), by repeat (first | (with_reducible assumption) | (with_reducible refine At.drew ?_) | (with_reducible refine At.put (k := 0) (n := 0) ?_) | (with_reducible refine At.far ?_ (by omega)) | (with_reducible refine At.new _ _ (by simp)) | (with_reducible refine At.alloc ?_ _) | (with_reducible refine At.later ?_ (by assumption))), by repeat (first | (with_reducible assumption) | (with_reducible refine At.drew ?_) | (with_reducible refine At.put (k := 0) (n := 0) ?_) | (with_reducible refine At.far ?_ (by omega)) | (with_reducible refine At.new _ _ (by simp)) | (with_reducible refine At.alloc ?_ _) | (with_reducible refine At.later ?_ (by assumption))), by repeat (first | (with_reducible assumption) | (with_reducible refine At.drew ?_) | (with_reducible refine At.put (k := 0) (n := 0) ?_) | (with_reducible refine At.far ?_ (by omega)) | (with_reducible refine At.new _ _ (by simp)) | (with_reducible refine At.alloc ?_ _) | (with_reducible refine At.later ?_ (by assumption))), by repeat (first | (with_reducible assumption) | (with_reducible refine blw_alloc _ ?_) | (with_reducible refine Below.drew ?_) | (with_reducible exact Below.refl _ _) | (with_reducible refine blw_put _ (by omega) ?_) | (with_reducible refine blw_call ?_ (by assumption)))⟩
      case rest =>
        clear hbw hws la5 a5 la6 a6 la7 a7
        obtain ⟨c8, rfl, rfl, a5, a6, a7, a8, hbw⟩ := hcut
        have la5 := At.lt a5
        have la6 := At.lt a6
        have la7 := At.lt a7
        have la8 := At.lt a8
        have hws := hbw.size
        go_upto_region 12 with (fail)
        go_cut [10, 11] (fun s10 s11 wx => ∃ c10 : Nat, s10 = .pointer (some ⟨c10, 0, none⟩) ∧ s11 = .bool true ∧ At wx c5 3 n1 ∧ At wx c6 3 n2 ∧ At wx c7 3 0 ∧ At wx c8 3 pn ∧ At wx c10 qk qn ∧ Below w.heap.size w wx)
        case first =>
          go_wp2_with (first | (go_at_call 15; ((with_reducible refine (div_at hp h2 hd _).mono ?_); rintro e w2 ⟨rfl, hb2⟩)))
          go_meet
          exact ⟨_, rfl, rfl, by repeat (first | (with_reducible assumption) | (with_reducible refine At.drew ?_) | (with_reducible refine At.put (k := 0) (n := 0) ?_) | (with_reducible refine At.far ?_ (by omega)) | (with_reducible refine At.new _ _ (by simp)) | (with_reducible refine At.alloc ?_ _) | (with_reducible refine At.later ?_ (by assumption))), by repeat (first | (with_reducible assumption) | (with_reducible refine At.drew ?_) | (with_reducible refine At.put (k := 0) (n := 0) ?_) | (with_reducible refine At.far ?_ (by omega)) | (with_reducible refine At.new _ _ (by simp)) | (with_reducible refine At.alloc ?_ _) | (with_reducible refine At.later ?_ (by assumption))), by repeat (first | (with_reducible assumption) | (with_reducible refine At.drew ?_) | (with_reducible refine At.put (k := 0) (n := 0) ?_) | (with_reducible refine At.far ?_ (by omega)) | (with_reducible refine At.new _ _ (by simp)) | (with_reducible refine At.alloc ?_ _) | (with_reducible refine At.later ?_ (by assumption))), by repeat (first | (with_reducible assumption) | (with_reducible refine At.drew ?_) | (with_reducible refine At.put (k := 0) (n := 0) ?_) | (with_reducible refine At.far ?_ (by omega)) | (with_reducible refine At.new _ _ (by simp)) | (with_reducible refine At.alloc ?_ _) | (with_reducible refine At.later ?_ (by assumption))), by repeat (first | (with_reducible assumption) | (with_reducible refine At.drew ?_) | (with_reducible refine At.put (k := 0) (n := 0) ?_) | (with_reducible refine At.far ?_ (by omega)) | (with_reducible refine At.new _ _ (by simp)) | (with_reducible refine At.alloc ?_ _) | (with_reducible refine At.later ?_ (by assumption))), by repeat (first | (with_reducible assumption) | (with_reducible refine blw_alloc _ ?_) | (with_reducible refine Below.drew ?_) | (with_reducible exact Below.refl _ _) | (with_reducible refine blw_put _ (by omega) ?_) | (with_reducible refine blw_call ?_ (by assumption)))⟩
        case rest =>
          clear hbw hws la5 a5 la6 a6 la7 a7 la8 a8
          obtain ⟨c10, rfl, rfl, a5, a6, a7, a8, a10, hbw⟩ := hcut
          have la5 := At.lt a5
          have la6 := At.lt a6
          have la7 := At.lt a7
          have la8 := At.lt a8
          have la10 := At.lt a10
          have hws := hbw.size
          go_upto_region 13 with (fail)
          go_cut [12, 13] (fun s12 s13 wx => ∃ c12 : Nat, s12 = .pointer (some ⟨c12, 0, none⟩) ∧ s13 = .bool true ∧ At wx c5 3 n1 ∧ At wx c6 3 n2 ∧ At wx c7 3 0 ∧ At wx c8 3 pn ∧ At wx c10 qk qn ∧ At wx c12 3 pn ∧ Below w.heap.size w wx)
          case first =>
            go_wp2_with (first | (go_at_call 14; ((with_reducible refine (mul_at hqq h2 hm _).mono ?_); rintro e w2 ⟨rfl, hb2⟩)))
            go_meet
            exact ⟨_, rfl, rfl, by repeat (first | (with_reducible assumption) | (with_reducible refine At.drew ?_) | (with_reducible refine At.put (k := 0) (n := 0) ?_) | (with_reducible refine At.far ?_ (by omega)) | (with_reducible refine At.new _ _ (by simp)) | (with_reducible refine At.alloc ?_ _) | (with_reducible refine At.later ?_ (by assumption))), by repeat (first | (with_reducible assumption) | (with_reducible refine At.drew ?_) | (with_reducible refine At.put (k := 0) (n := 0) ?_) | (with_reducible refine At.far ?_ (by omega)) | (with_reducible refine At.new _ _ (by simp)) | (with_reducible refine At.alloc ?_ _) | (with_reducible refine At.later ?_ (by assumption))), by repeat (first | (with_reducible assumption) | (with_reducible refine At.drew ?_) | (with_reducible refine At.put (k := 0) (n := 0) ?_) | (with_reducible refine At.far ?_ (by omega)) | (with_reducible refine At.new _ _ (by simp)) | (with_reducible refine At.alloc ?_ _) | (with_reducible refine At.later ?_ (by assumption))), by repeat (first | (with_reducible assumption) | (with_reducible refine At.drew ?_) | (with_reducible refine At.put (k := 0) (n := 0) ?_) | (with_reducible refine At.far ?_ (by omega)) | (with_reducible refine At.new _ _ (by simp)) | (with_reducible refine At.alloc ?_ _) | (with_reducible refine At.later ?_ (by assumption))), by repeat (first | (with_reducible assumption) | (with_reducible refine At.drew ?_) | (with_reducible refine At.put (k := 0) (n := 0) ?_) | (with_reducible refine At.far ?_ (by omega)) | (with_reducible refine At.new _ _ (by simp)) | (with_reducible refine At.alloc ?_ _) | (with_reducible refine At.later ?_ (by assumption))), by repeat (first | (with_reducible assumption) | (with_reducible refine At.drew ?_) | (with_reducible refine At.put (k := 0) (n := 0) ?_) | (with_reducible refine At.far ?_ (by omega)) | (with_reducible refine At.new _ _ (by simp)) | (with_reducible refine At.alloc ?_ _) | (with_reducible refine At.later ?_ (by assumption))), by repeat (first | (with_reducible assumption) | (with_reducible refine blw_alloc _ ?_) | (with_reducible refine Below.drew ?_) | (with_reducible exact Below.refl _ _) | (with_reducible refine blw_put _ (by omega) ?_) | (with_reducible refine blw_call ?_ (by assumption)))⟩
          case rest =>
            clear hbw hws la5 a5 la6 a6 la7 a7 la8 a8 la10 a10
            obtain ⟨c12, rfl, rfl, a5, a6, a7, a8, a10, a12, hbw⟩ := hcut
            have la5 := At.lt a5
            have la6 := At.lt a6
            have la7 := At.lt a7
            have la8 := At.lt a8
            have la10 := At.lt a10
            have la12 := At.lt a12
            have hws := hbw.size
            go_wp2_with (first | (go_at_call 22; ((with_reducible refine (equal_at hp hp he _).mono ?_); rintro e w2 ⟨rfl, hb2⟩; have b5 : At w2 c5 3 n1 := (by repeat (first | (with_reducible assumption) | (with_reducible refine At.drew ?_) | (with_reducible refine At.put (k := 0) (n := 0) ?_) | (with_reducible refine At.far ?_ (by omega)) | (with_reducible refine At.new _ _ (by simp)) | (with_reducible refine At.alloc ?_ _) | (with_reducible refine At.later ?_ (by assumption)))); have b6 : At w2 c6 3 n2 := (by repeat (first | (with_reducible assumption) | (with_reducible refine At.drew ?_) | (with_reducible refine At.put (k := 0) (n := 0) ?_) | (with_reducible refine At.far ?_ (by omega)) | (with_reducible refine At.new _ _ (by simp)) | (with_reducible refine At.alloc ?_ _) | (with_reducible refine At.later ?_ (by assumption)))); have b7 : At w2 c7 3 0 := (by repeat (first | (with_reducible assumption) | (with_reducible refine At.drew ?_) | (with_reducible refine At.put (k := 0) (n := 0) ?_) | (with_reducible refine At.far ?_ (by omega)) | (with_reducible refine At.new _ _ (by simp)) | (with_reducible refine At.alloc ?_ _) | (with_reducible refine At.later ?_ (by assumption)))))))
            all_goals go_ret
            all_goals exact ⟨rfl, by repeat (first | (with_reducible assumption) | (with_reducible refine blw_alloc _ ?_) | (with_reducible refine Below.drew ?_) | (with_reducible exact Below.refl _ _) | (with_reducible refine blw_put _ (by omega) ?_) | (with_reducible refine blw_call ?_ (by assumption)))⟩

set_option maxRecDepth 100000 in
set_option maxHeartbeats 3200000 in
theorem parts_epn (a b n1 n2 : Int) (ha : Hid (numV a = (3, n1))) (hb : Hid (numV b = (3, n2))) (h1 : Num 3 n1) (h2 : Num 3 n2) (_h11 : -9007199254740991 ≤ n1) (_h12 : n1 ≤ 9007199254740991) (_h21 : -9007199254740991 ≤ n2) (_h22 : n2 ≤ 9007199254740991) (_hz : n2 ≠ 0) (_hzb : (n2 == 0) = false) (pn qk qn rn : Int) (hrn : Num 3 rn) (hp : Num 3 pn) (hqq : Num qk qn) (hr : Hid (remR 3 n1 3 n2 = (3, rn))) (hs : Hid (subR 3 n1 3 rn = (3, pn, true))) (hd : Hid (divR 3 pn 3 n2 = (qk, qn, true))) (hm : Hid (mulR qk qn 3 n2 = (3, pn, true))) (he : Hid (eqR 3 pn 3 pn = true)) (_hy : n2 < 0) (_hy2 : n2 < -n2) (_hr0 : (rn == 0) = false) (_hr1 : 0 < rn) (_hr2 : -rn ≤ rn) (_hr3 : rn ≤ 9007199254740991) (_hx : 0 < n1) (_hl : rn < -n2) (w : World) :
    Calls Tryd.prog 7 #[.int .i64 a, .int .i64 b] w fun e w' => e = .returned (.bool true) ∧ Below w.heap.size w w' := by
  go_enter Tryd.func7, Tryd.ntmps7
  go_upto_region 3 with (first | (go_at_call 9; ((with_reducible refine (fit_any _).mono ?_); rintro e w1 ⟨rfl, hbf⟩)))
  go_cut [5, 6] (fun s5 s6 wx => ∃ c5 c6 : Nat, s5 = .pointer (some ⟨c5, 0, none⟩) ∧ s6 = .pointer (some ⟨c6, 0, none⟩) ∧ At wx c5 3 n1 ∧ At wx c6 3 n2 ∧ Below w.heap.size w wx)
  case first =>
    go_wp2_with (first | (go_at_call 10; ((with_reducible refine (numOf_at _ _ _ ha _).mono ?_); rintro e w' ⟨rfl, rfl⟩)) | (go_at_call 10; ((with_reducible refine (numOf_at _ _ _ hb _).mono ?_); rintro e w' ⟨rfl, rfl⟩)))
    go_meet
    exact ⟨_, _, rfl, rfl, by repeat (first | (with_reducible assumption) | (with_reducible refine At.drew ?_) | (with_reducible refine At.put (k := 0) (n := 0) ?_) | (with_reducible refine At.far ?_ (by omega)) | (with_reducible refine At.new _ _ (by simp)) | (with_reducible refine At.alloc ?_ _) | (with_reducible refine At.later ?_ (by assumption))), by repeat (first | (with_reducible assumption) | (with_reducible refine At.drew ?_) | (with_reducible refine At.put (k := 0) (n := 0) ?_) | (with_reducible refine At.far ?_ (by omega)) | (with_reducible refine At.new _ _ (by simp)) | (with_reducible refine At.alloc ?_ _) | (with_reducible refine At.later ?_ (by assumption))), by repeat (first | (with_reducible assumption) | (with_reducible refine blw_alloc _ ?_) | (with_reducible refine Below.drew ?_) | (with_reducible exact Below.refl _ _) | (with_reducible refine blw_put _ (by omega) ?_) | (with_reducible refine blw_call ?_ (by assumption)))⟩
  case rest =>
    obtain ⟨c5, c6, rfl, rfl, a5, a6, hbw⟩ := hcut
    have la5 := At.lt a5
    have la6 := At.lt a6
    have hws := hbw.size
    go_upto_region 6 with (fail)
    go_cut [7] (fun s7 wx => ∃ c7 : Nat, s7 = .pointer (some ⟨c7, 0, none⟩) ∧ At wx c5 3 n1 ∧ At wx c6 3 n2 ∧ At wx c7 3 rn ∧ Below w.heap.size w wx)
    case first =>
      go_wp2_with (first | (go_at_call 18; ((with_reducible refine (rem_at h1 h2 hr _).mono ?_); rintro e w2 ⟨rfl, hb2⟩)))
      go_meet
      exact ⟨_, rfl, by repeat (first | (with_reducible assumption) | (with_reducible refine At.drew ?_) | (with_reducible refine At.put (k := 0) (n := 0) ?_) | (with_reducible refine At.far ?_ (by omega)) | (with_reducible refine At.new _ _ (by simp)) | (with_reducible refine At.alloc ?_ _) | (with_reducible refine At.later ?_ (by assumption))), by repeat (first | (with_reducible assumption) | (with_reducible refine At.drew ?_) | (with_reducible refine At.put (k := 0) (n := 0) ?_) | (with_reducible refine At.far ?_ (by omega)) | (with_reducible refine At.new _ _ (by simp)) | (with_reducible refine At.alloc ?_ _) | (with_reducible refine At.later ?_ (by assumption))), by repeat (first | (with_reducible assumption) | (with_reducible refine At.drew ?_) | (with_reducible refine At.put (k := 0) (n := 0) ?_) | (with_reducible refine At.far ?_ (by omega)) | (with_reducible refine At.new _ _ (by simp)) | (with_reducible refine At.alloc ?_ _) | (with_reducible refine At.later ?_ (by assumption))), by repeat (first | (with_reducible assumption) | (with_reducible refine blw_alloc _ ?_) | (with_reducible refine Below.drew ?_) | (with_reducible exact Below.refl _ _) | (with_reducible refine blw_put _ (by omega) ?_) | (with_reducible refine blw_call ?_ (by assumption)))⟩
    case rest =>
      clear hbw hws la5 a5 la6 a6
      obtain ⟨c7, rfl, a5, a6, a7, hbw⟩ := hcut
      have la5 := At.lt a5
      have la6 := At.lt a6
      have la7 := At.lt a7
      have hws := hbw.size
      go_upto_region 9 with (fail)
      go_cut [8, 9] (fun s8 s9 wx => ∃ c8 : Nat, s8 = .pointer (some ⟨c8, 0, none⟩) ∧ s9 = .bool true ∧ At wx c5 3 n1 ∧ At wx c6 3 n2 ∧ At wx c7 3 rn ∧ At wx c8 3 pn ∧ Below w.heap.size w wx)
      case first =>
        go_wp2_with (first | (go_at_call 13; ((with_reducible refine (sub_at h1 hrn hs _).mono ?_); rintro e w2 ⟨rfl, hb2⟩)))
        go_meet
        exact ⟨_, rfl, rfl, by repeat (first | (with_reducible assumption) | (with_reducible refine At.drew ?_) | (with_reducible refine At.put (k := 0) (n := 0) ?_) | (with_reducible refine At.far ?_ (by omega)) | (with_reducible refine At.new _ _ (by simp)) | (with_reducible refine At.alloc ?_ _) | (with_reducible refine At.later ?_ (by assumption))), by repeat (first | (with_reducible assumption) | (with_reducible refine At.drew ?_) | (with_reducible refine At.put (k := 0) (n := 0) ?_) | (with_reducible refine At.far ?_ (by omega)) | (with_reducible refine At.new _ _ (by simp)) | (with_reducible refine At.alloc ?_ _) | (with_reducible refine At.later ?_ (by assumption))), by repeat (first | (with_reducible assumption) | (with_reducible refine At.drew ?_) | (with_reducible refine At.put (k := 0) (n := 0) ?_) | (with_reducible refine At.far ?_ (by omega)) | (with_reducible refine At.new _ _ (by simp)) | (with_reducible refine At.alloc ?_ _) | (with_reducible refine At.later ?_ (by assumption))), by repeat (first | (with_reducible assumption) | (with_reducible refine At.drew ?_) | (with_reducible refine At.put (k := 0) (n := 0) ?_) | (with_reducible refine At.far ?_ (by omega)) | (with_reducible refine At.new _ _ (by simp)) | (with_reducible refine At.alloc ?_ _) | (with_reducible refine At.later ?_ (by assumption))), by repeat (first | (with_reducible assumption) | (with_reducible refine blw_alloc _ ?_) | (with_reducible refine Below.drew ?_) | (with_reducible exact Below.refl _ _) | (with_reducible refine blw_put _ (by omega) ?_) | (with_reducible refine blw_call ?_ (by assumption)))⟩
      case rest =>
        clear hbw hws la5 a5 la6 a6 la7 a7
        obtain ⟨c8, rfl, rfl, a5, a6, a7, a8, hbw⟩ := hcut
        have la5 := At.lt a5
        have la6 := At.lt a6
        have la7 := At.lt a7
        have la8 := At.lt a8
        have hws := hbw.size
        go_upto_region 12 with (fail)
        go_cut [10, 11] (fun s10 s11 wx => ∃ c10 : Nat, s10 = .pointer (some ⟨c10, 0, none⟩) ∧ s11 = .bool true ∧ At wx c5 3 n1 ∧ At wx c6 3 n2 ∧ At wx c7 3 rn ∧ At wx c8 3 pn ∧ At wx c10 qk qn ∧ Below w.heap.size w wx)
        case first =>
          go_wp2_with (first | (go_at_call 15; ((with_reducible refine (div_at hp h2 hd _).mono ?_); rintro e w2 ⟨rfl, hb2⟩)))
          go_meet
          exact ⟨_, rfl, rfl, by repeat (first | (with_reducible assumption) | (with_reducible refine At.drew ?_) | (with_reducible refine At.put (k := 0) (n := 0) ?_) | (with_reducible refine At.far ?_ (by omega)) | (with_reducible refine At.new _ _ (by simp)) | (with_reducible refine At.alloc ?_ _) | (with_reducible refine At.later ?_ (by assumption))), by repeat (first | (with_reducible assumption) | (with_reducible refine At.drew ?_) | (with_reducible refine At.put (k := 0) (n := 0) ?_) | (with_reducible refine At.far ?_ (by omega)) | (with_reducible refine At.new _ _ (by simp)) | (with_reducible refine At.alloc ?_ _) | (with_reducible refine At.later ?_ (by assumption))), by repeat (first | (with_reducible assumption) | (with_reducible refine At.drew ?_) | (with_reducible refine At.put (k := 0) (n := 0) ?_) | (with_reducible refine At.far ?_ (by omega)) | (with_reducible refine At.new _ _ (by simp)) | (with_reducible refine At.alloc ?_ _) | (with_reducible refine At.later ?_ (by assumption))), by repeat (first | (with_reducible assumption) | (with_reducible refine At.drew ?_) | (with_reducible refine At.put (k := 0) (n := 0) ?_) | (with_reducible refine At.far ?_ (by omega)) | (with_reducible refine At.new _ _ (by simp)) | (with_reducible refine At.alloc ?_ _) | (with_reducible refine At.later ?_ (by assumption))), by repeat (first | (with_reducible assumption) | (with_reducible refine At.drew ?_) | (with_reducible refine At.put (k := 0) (n := 0) ?_) | (with_reducible refine At.far ?_ (by omega)) | (with_reducible refine At.new _ _ (by simp)) | (with_reducible refine At.alloc ?_ _) | (with_reducible refine At.later ?_ (by assumption))), by repeat (first | (with_reducible assumption) | (with_reducible refine blw_alloc _ ?_) | (with_reducible refine Below.drew ?_) | (with_reducible exact Below.refl _ _) | (with_reducible refine blw_put _ (by omega) ?_) | (with_reducible refine blw_call ?_ (by assumption)))⟩
        case rest =>
          clear hbw hws la5 a5 la6 a6 la7 a7 la8 a8
          obtain ⟨c10, rfl, rfl, a5, a6, a7, a8, a10, hbw⟩ := hcut
          have la5 := At.lt a5
          have la6 := At.lt a6
          have la7 := At.lt a7
          have la8 := At.lt a8
          have la10 := At.lt a10
          have hws := hbw.size
          go_upto_region 13 with (fail)
          go_cut [12, 13] (fun s12 s13 wx => ∃ c12 : Nat, s12 = .pointer (some ⟨c12, 0, none⟩) ∧ s13 = .bool true ∧ At wx c5 3 n1 ∧ At wx c6 3 n2 ∧ At wx c7 3 rn ∧ At wx c8 3 pn ∧ At wx c10 qk qn ∧ At wx c12 3 pn ∧ Below w.heap.size w wx)
          case first =>
            go_wp2_with (first | (go_at_call 14; ((with_reducible refine (mul_at hqq h2 hm _).mono ?_); rintro e w2 ⟨rfl, hb2⟩)))
            go_meet
            exact ⟨_, rfl, rfl, by repeat (first | (with_reducible assumption) | (with_reducible refine At.drew ?_) | (with_reducible refine At.put (k := 0) (n := 0) ?_) | (with_reducible refine At.far ?_ (by omega)) | (with_reducible refine At.new _ _ (by simp)) | (with_reducible refine At.alloc ?_ _) | (with_reducible refine At.later ?_ (by assumption))), by repeat (first | (with_reducible assumption) | (with_reducible refine At.drew ?_) | (with_reducible refine At.put (k := 0) (n := 0) ?_) | (with_reducible refine At.far ?_ (by omega)) | (with_reducible refine At.new _ _ (by simp)) | (with_reducible refine At.alloc ?_ _) | (with_reducible refine At.later ?_ (by assumption))), by repeat (first | (with_reducible assumption) | (with_reducible refine At.drew ?_) | (with_reducible refine At.put (k := 0) (n := 0) ?_) | (with_reducible refine At.far ?_ (by omega)) | (with_reducible refine At.new _ _ (by simp)) | (with_reducible refine At.alloc ?_ _) | (with_reducible refine At.later ?_ (by assumption))), by repeat (first | (with_reducible assumption) | (with_reducible refine At.drew ?_) | (with_reducible refine At.put (k := 0) (n := 0) ?_) | (with_reducible refine At.far ?_ (by omega)) | (with_reducible refine At.new _ _ (by simp)) | (with_reducible refine At.alloc ?_ _) | (with_reducible refine At.later ?_ (by assumption))), by repeat (first | (with_reducible assumption) | (with_reducible refine At.drew ?_) | (with_reducible refine At.put (k := 0) (n := 0) ?_) | (with_reducible refine At.far ?_ (by omega)) | (with_reducible refine At.new _ _ (by simp)) | (with_reducible refine At.alloc ?_ _) | (with_reducible refine At.later ?_ (by assumption))), by repeat (first | (with_reducible assumption) | (with_reducible refine At.drew ?_) | (with_reducible refine At.put (k := 0) (n := 0) ?_) | (with_reducible refine At.far ?_ (by omega)) | (with_reducible refine At.new _ _ (by simp)) | (with_reducible refine At.alloc ?_ _) | (with_reducible refine At.later ?_ (by assumption))), by repeat (first | (with_reducible assumption) | (with_reducible refine blw_alloc _ ?_) | (with_reducible refine Below.drew ?_) | (with_reducible exact Below.refl _ _) | (with_reducible refine blw_put _ (by omega) ?_) | (with_reducible refine blw_call ?_ (by assumption)))⟩
          case rest =>
            clear hbw hws la5 a5 la6 a6 la7 a7 la8 a8 la10 a10
            obtain ⟨c12, rfl, rfl, a5, a6, a7, a8, a10, a12, hbw⟩ := hcut
            have la5 := At.lt a5
            have la6 := At.lt a6
            have la7 := At.lt a7
            have la8 := At.lt a8
            have la10 := At.lt a10
            have la12 := At.lt a12
            have hws := hbw.size
            go_wp2_with (first | (go_at_call 22; ((with_reducible refine (equal_at hp hp he _).mono ?_); rintro e w2 ⟨rfl, hb2⟩; have b5 : At w2 c5 3 n1 := (by repeat (first | (with_reducible assumption) | (with_reducible refine At.drew ?_) | (with_reducible refine At.put (k := 0) (n := 0) ?_) | (with_reducible refine At.far ?_ (by omega)) | (with_reducible refine At.new _ _ (by simp)) | (with_reducible refine At.alloc ?_ _) | (with_reducible refine At.later ?_ (by assumption)))); have b6 : At w2 c6 3 n2 := (by repeat (first | (with_reducible assumption) | (with_reducible refine At.drew ?_) | (with_reducible refine At.put (k := 0) (n := 0) ?_) | (with_reducible refine At.far ?_ (by omega)) | (with_reducible refine At.new _ _ (by simp)) | (with_reducible refine At.alloc ?_ _) | (with_reducible refine At.later ?_ (by assumption)))); have b7 : At w2 c7 3 rn := (by repeat (first | (with_reducible assumption) | (with_reducible refine At.drew ?_) | (with_reducible refine At.put (k := 0) (n := 0) ?_) | (with_reducible refine At.far ?_ (by omega)) | (with_reducible refine At.new _ _ (by simp)) | (with_reducible refine At.alloc ?_ _) | (with_reducible refine At.later ?_ (by assumption)))))))
            all_goals go_ret
            all_goals exact ⟨rfl, by repeat (first | (with_reducible assumption) | (with_reducible refine blw_alloc _ ?_) | (with_reducible refine Below.drew ?_) | (with_reducible exact Below.refl _ _) | (with_reducible refine blw_put _ (by omega) ?_) | (with_reducible refine blw_call ?_ (by assumption)))⟩

set_option maxRecDepth 100000 in
set_option maxHeartbeats 3200000 in
theorem parts_enn (a b n1 n2 : Int) (ha : Hid (numV a = (3, n1))) (hb : Hid (numV b = (3, n2))) (h1 : Num 3 n1) (h2 : Num 3 n2) (_h11 : -9007199254740991 ≤ n1) (_h12 : n1 ≤ 9007199254740991) (_h21 : -9007199254740991 ≤ n2) (_h22 : n2 ≤ 9007199254740991) (_hz : n2 ≠ 0) (_hzb : (n2 == 0) = false) (pn qk qn rn : Int) (hrn : Num 3 rn) (hp : Num 3 pn) (hqq : Num qk qn) (hr : Hid (remR 3 n1 3 n2 = (3, rn))) (hs : Hid (subR 3 n1 3 rn = (3, pn, true))) (hd : Hid (divR 3 pn 3 n2 = (qk, qn, true))) (hm : Hid (mulR qk qn 3 n2 = (3, pn, true))) (he : Hid (eqR 3 pn 3 pn = true)) (_hy : n2 < 0) (_hy2 : n2 < -n2) (_hr0 : (rn == 0) = false) (_hr1 : rn < 0) (_hr2 : rn < -rn) (_hr3 : -9007199254740991 ≤ rn) (_hx : n1 < 0) (_hl : -rn < -n2) (w : World) :
    Calls Tryd.prog 7 #[.int .i64 a, .int .i64 b] w fun e w' => e = .returned (.bool true) ∧ Below w.heap.size w w' := by
  go_enter Tryd.func7, Tryd.ntmps7
  go_upto_region 3 with (first | (go_at_call 9; ((with_reducible refine (fit_any _).mono ?_); rintro e w1 ⟨rfl, hbf⟩)))
  go_cut [5, 6] (fun s5 s6 wx => ∃ c5 c6 : Nat, s5 = .pointer (some ⟨c5, 0, none⟩) ∧ s6 = .pointer (some ⟨c6, 0, none⟩) ∧ At wx c5 3 n1 ∧ At wx c6 3 n2 ∧ Below w.heap.size w wx)
  case first =>
    go_wp2_with (first | (go_at_call 10; ((with_reducible refine (numOf_at _ _ _ ha _).mono ?_); rintro e w' ⟨rfl, rfl⟩)) | (go_at_call 10; ((with_reducible refine (numOf_at _ _ _ hb _).mono ?_); rintro e w' ⟨rfl, rfl⟩)))
    go_meet
    exact ⟨_, _, rfl, rfl, by repeat (first | (with_reducible assumption) | (with_reducible refine At.drew ?_) | (with_reducible refine At.put (k := 0) (n := 0) ?_) | (with_reducible refine At.far ?_ (by omega)) | (with_reducible refine At.new _ _ (by simp)) | (with_reducible refine At.alloc ?_ _) | (with_reducible refine At.later ?_ (by assumption))), by repeat (first | (with_reducible assumption) | (with_reducible refine At.drew ?_) | (with_reducible refine At.put (k := 0) (n := 0) ?_) | (with_reducible refine At.far ?_ (by omega)) | (with_reducible refine At.new _ _ (by simp)) | (with_reducible refine At.alloc ?_ _) | (with_reducible refine At.later ?_ (by assumption))), by repeat (first | (with_reducible assumption) | (with_reducible refine blw_alloc _ ?_) | (with_reducible refine Below.drew ?_) | (with_reducible exact Below.refl _ _) | (with_reducible refine blw_put _ (by omega) ?_) | (with_reducible refine blw_call ?_ (by assumption)))⟩
  case rest =>
    obtain ⟨c5, c6, rfl, rfl, a5, a6, hbw⟩ := hcut
    have la5 := At.lt a5
    have la6 := At.lt a6
    have hws := hbw.size
    go_upto_region 6 with (fail)
    go_cut [7] (fun s7 wx => ∃ c7 : Nat, s7 = .pointer (some ⟨c7, 0, none⟩) ∧ At wx c5 3 n1 ∧ At wx c6 3 n2 ∧ At wx c7 3 rn ∧ Below w.heap.size w wx)
    case first =>
      go_wp2_with (first | (go_at_call 18; ((with_reducible refine (rem_at h1 h2 hr _).mono ?_); rintro e w2 ⟨rfl, hb2⟩)))
      go_meet
      exact ⟨_, rfl, by repeat (first | (with_reducible assumption) | (with_reducible refine At.drew ?_) | (with_reducible refine At.put (k := 0) (n := 0) ?_) | (with_reducible refine At.far ?_ (by omega)) | (with_reducible refine At.new _ _ (by simp)) | (with_reducible refine At.alloc ?_ _) | (with_reducible refine At.later ?_ (by assumption))), by repeat (first | (with_reducible assumption) | (with_reducible refine At.drew ?_) | (with_reducible refine At.put (k := 0) (n := 0) ?_) | (with_reducible refine At.far ?_ (by omega)) | (with_reducible refine At.new _ _ (by simp)) | (with_reducible refine At.alloc ?_ _) | (with_reducible refine At.later ?_ (by assumption))), by repeat (first | (with_reducible assumption) | (with_reducible refine At.drew ?_) | (with_reducible refine At.put (k := 0) (n := 0) ?_) | (with_reducible refine At.far ?_ (by omega)) | (with_reducible refine At.new _ _ (by simp)) | (with_reducible refine At.alloc ?_ _) | (with_reducible refine At.later ?_ (by assumption))), by repeat (first | (with_reducible assumption) | (with_reducible refine blw_alloc _ ?_) | (with_reducible refine Below.drew ?_) | (with_reducible exact Below.refl _ _) | (with_reducible refine blw_put _ (by omega) ?_) | (with_reducible refine blw_call ?_ (by assumption)))⟩
    case rest =>
      clear hbw hws la5 a5 la6 a6
      obtain ⟨c7, rfl, a5, a6, a7, hbw⟩ := hcut
      have la5 := At.lt a5
      have la6 := At.lt a6
      have la7 := At.lt a7
      have hws := hbw.size
      go_upto_region 9 with (fail)
      go_cut [8, 9] (fun s8 s9 wx => ∃ c8 : Nat, s8 = .pointer (some ⟨c8, 0, none⟩) ∧ s9 = .bool true ∧ At wx c5 3 n1 ∧ At wx c6 3 n2 ∧ At wx c7 3 rn ∧ At wx c8 3 pn ∧ Below w.heap.size w wx)
      case first =>
        go_wp2_with (first | (go_at_call 13; ((with_reducible refine (sub_at h1 hrn hs _).mono ?_); rintro e w2 ⟨rfl, hb2⟩)))
        go_meet
        exact ⟨_, rfl, rfl, by repeat (first | (with_reducible assumption) | (with_reducible refine At.drew ?_) | (with_reducible refine At.put (k := 0) (n := 0) ?_) | (with_reducible refine At.far ?_ (by omega)) | (with_reducible refine At.new _ _ (by simp)) | (with_reducible refine At.alloc ?_ _) | (with_reducible refine At.later ?_ (by assumption))), by repeat (first | (with_reducible assumption) | (with_reducible refine At.drew ?_) | (with_reducible refine At.put (k := 0) (n := 0) ?_) | (with_reducible refine At.far ?_ (by omega)) | (with_reducible refine At.new _ _ (by simp)) | (with_reducible refine At.alloc ?_ _) | (with_reducible refine At.later ?_ (by assumption))), by repeat (first | (with_reducible assumption) | (with_reducible refine At.drew ?_) | (with_reducible refine At.put (k := 0) (n := 0) ?_) | (with_reducible refine At.far ?_ (by omega)) | (with_reducible refine At.new _ _ (by simp)) | (with_reducible refine At.alloc ?_ _) | (with_reducible refine At.later ?_ (by assumption))), by repeat (first | (with_reducible assumption) | (with_reducible refine At.drew ?_) | (with_reducible refine At.put (k := 0) (n := 0) ?_) | (with_reducible refine At.far ?_ (by omega)) | (with_reducible refine At.new _ _ (by simp)) | (with_reducible refine At.alloc ?_ _) | (with_reducible refine At.later ?_ (by assumption))), by repeat (first | (with_reducible assumption) | (with_reducible refine blw_alloc _ ?_) | (with_reducible refine Below.drew ?_) | (with_reducible exact Below.refl _ _) | (with_reducible refine blw_put _ (by omega) ?_) | (with_reducible refine blw_call ?_ (by assumption)))⟩
      case rest =>
        clear hbw hws la5 a5 la6 a6 la7 a7
        obtain ⟨c8, rfl, rfl, a5, a6, a7, a8, hbw⟩ := hcut
        have la5 := At.lt a5
        have la6 := At.lt a6
        have la7 := At.lt a7
        have la8 := At.lt a8
        have hws := hbw.size
        go_upto_region 12 with (fail)
        go_cut [10, 11] (fun s10 s11 wx => ∃ c10 : Nat, s10 = .pointer (some ⟨c10, 0, none⟩) ∧ s11 = .bool true ∧ At wx c5 3 n1 ∧ At wx c6 3 n2 ∧ At wx c7 3 rn ∧ At wx c8 3 pn ∧ At wx c10 qk qn ∧ Below w.heap.size w wx)
        case first =>
          go_wp2_with (first | (go_at_call 15; ((with_reducible refine (div_at hp h2 hd _).mono ?_); rintro e w2 ⟨rfl, hb2⟩)))
          go_meet
          exact ⟨_, rfl, rfl, by repeat (first | (with_reducible assumption) | (with_reducible refine At.drew ?_) | (with_reducible refine At.put (k := 0) (n := 0) ?_) | (with_reducible refine At.far ?_ (by omega)) | (with_reducible refine At.new _ _ (by simp)) | (with_reducible refine At.alloc ?_ _) | (with_reducible refine At.later ?_ (by assumption))), by repeat (first | (with_reducible assumption) | (with_reducible refine At.drew ?_) | (with_reducible refine At.put (k := 0) (n := 0) ?_) | (with_reducible refine At.far ?_ (by omega)) | (with_reducible refine At.new _ _ (by simp)) | (with_reducible refine At.alloc ?_ _) | (with_reducible refine At.later ?_ (by assumption))), by repeat (first | (with_reducible assumption) | (with_reducible refine At.drew ?_) | (with_reducible refine At.put (k := 0) (n := 0) ?_) | (with_reducible refine At.far ?_ (by omega)) | (with_reducible refine At.new _ _ (by simp)) | (with_reducible refine At.alloc ?_ _) | (with_reducible refine At.later ?_ (by assumption))), by repeat (first | (with_reducible assumption) | (with_reducible refine At.drew ?_) | (with_reducible refine At.put (k := 0) (n := 0) ?_) | (with_reducible refine At.far ?_ (by omega)) | (with_reducible refine At.new _ _ (by simp)) | (with_reducible refine At.alloc ?_ _) | (with_reducible refine At.later ?_ (by assumption))), by repeat (first | (with_reducible assumption) | (with_reducible refine At.drew ?_) | (with_reducible refine At.put (k := 0) (n := 0) ?_) | (with_reducible refine At.far ?_ (by omega)) | (with_reducible refine At.new _ _ (by simp)) | (with_reducible refine At.alloc ?_ _) | (with_reducible refine At.later ?_ (by assumption))), by repeat (first | (with_reducible assumption) | (with_reducible refine blw_alloc _ ?_) | (with_reducible refine Below.drew ?_) | (with_reducible exact Below.refl _ _) | (with_reducible refine blw_put _ (by omega) ?_) | (with_reducible refine blw_call ?_ (by assumption)))⟩
        case rest =>
          clear hbw hws la5 a5 la6 a6 la7 a7 la8 a8
          obtain ⟨c10, rfl, rfl, a5, a6, a7, a8, a10, hbw⟩ := hcut
          have la5 := At.lt a5
          have la6 := At.lt a6
          have la7 := At.lt a7
          have la8 := At.lt a8
          have la10 := At.lt a10
          have hws := hbw.size
          go_upto_region 13 with (fail)
          go_cut [12, 13] (fun s12 s13 wx => ∃ c12 : Nat, s12 = .pointer (some ⟨c12, 0, none⟩) ∧ s13 = .bool true ∧ At wx c5 3 n1 ∧ At wx c6 3 n2 ∧ At wx c7 3 rn ∧ At wx c8 3 pn ∧ At wx c10 qk qn ∧ At wx c12 3 pn ∧ Below w.heap.size w wx)
          case first =>
            go_wp2_with (first | (go_at_call 14; ((with_reducible refine (mul_at hqq h2 hm _).mono ?_); rintro e w2 ⟨rfl, hb2⟩)))
            go_meet
            exact ⟨_, rfl, rfl, by repeat (first | (with_reducible assumption) | (with_reducible refine At.drew ?_) | (with_reducible refine At.put (k := 0) (n := 0) ?_) | (with_reducible refine At.far ?_ (by omega)) | (with_reducible refine At.new _ _ (by simp)) | (with_reducible refine At.alloc ?_ _) | (with_reducible refine At.later ?_ (by assumption))), by repeat (first | (with_reducible assumption) | (with_reducible refine At.drew ?_) | (with_reducible refine At.put (k := 0) (n := 0) ?_) | (with_reducible refine At.far ?_ (by omega)) | (with_reducible refine At.new _ _ (by simp)) | (with_reducible refine At.alloc ?_ _) | (with_reducible refine At.later ?_ (by assumption))), by repeat (first | (with_reducible assumption) | (with_reducible refine At.drew ?_) | (with_reducible refine At.put (k := 0) (n := 0) ?_) | (with_reducible refine At.far ?_ (by omega)) | (with_reducible refine At.new _ _ (by simp)) | (with_reducible refine At.alloc ?_ _) | (with_reducible refine At.later ?_ (by assumption))), by repeat (first | (with_reducible assumption) | (with_reducible refine At.drew ?_) | (with_reducible refine At.put (k := 0) (n := 0) ?_) | (with_reducible refine At.far ?_ (by omega)) | (with_reducible refine At.new _ _ (by simp)) | (with_reducible refine At.alloc ?_ _) | (with_reducible refine At.later ?_ (by assumption))), by repeat (first | (with_reducible assumption) | (with_reducible refine At.drew ?_) | (with_reducible refine At.put (k := 0) (n := 0) ?_) | (with_reducible refine At.far ?_ (by omega)) | (with_reducible refine At.new _ _ (by simp)) | (with_reducible refine At.alloc ?_ _) | (with_reducible refine At.later ?_ (by assumption))), by repeat (first | (with_reducible assumption) | (with_reducible refine At.drew ?_) | (with_reducible refine At.put (k := 0) (n := 0) ?_) | (with_reducible refine At.far ?_ (by omega)) | (with_reducible refine At.new _ _ (by simp)) | (with_reducible refine At.alloc ?_ _) | (with_reducible refine At.later ?_ (by assumption))), by repeat (first | (with_reducible assumption) | (with_reducible refine blw_alloc _ ?_) | (with_reducible refine Below.drew ?_) | (with_reducible exact Below.refl _ _) | (with_reducible refine blw_put _ (by omega) ?_) | (with_reducible refine blw_call ?_ (by assumption)))⟩
          case rest =>
            clear hbw hws la5 a5 la6 a6 la7 a7 la8 a8 la10 a10
            obtain ⟨c12, rfl, rfl, a5, a6, a7, a8, a10, a12, hbw⟩ := hcut
            have la5 := At.lt a5
            have la6 := At.lt a6
            have la7 := At.lt a7
            have la8 := At.lt a8
            have la10 := At.lt a10
            have la12 := At.lt a12
            have hws := hbw.size
            go_wp2_with (first | (go_at_call 22; ((with_reducible refine (equal_at hp hp he _).mono ?_); rintro e w2 ⟨rfl, hb2⟩; have b5 : At w2 c5 3 n1 := (by repeat (first | (with_reducible assumption) | (with_reducible refine At.drew ?_) | (with_reducible refine At.put (k := 0) (n := 0) ?_) | (with_reducible refine At.far ?_ (by omega)) | (with_reducible refine At.new _ _ (by simp)) | (with_reducible refine At.alloc ?_ _) | (with_reducible refine At.later ?_ (by assumption)))); have b6 : At w2 c6 3 n2 := (by repeat (first | (with_reducible assumption) | (with_reducible refine At.drew ?_) | (with_reducible refine At.put (k := 0) (n := 0) ?_) | (with_reducible refine At.far ?_ (by omega)) | (with_reducible refine At.new _ _ (by simp)) | (with_reducible refine At.alloc ?_ _) | (with_reducible refine At.later ?_ (by assumption)))); have b7 : At w2 c7 3 rn := (by repeat (first | (with_reducible assumption) | (with_reducible refine At.drew ?_) | (with_reducible refine At.put (k := 0) (n := 0) ?_) | (with_reducible refine At.far ?_ (by omega)) | (with_reducible refine At.new _ _ (by simp)) | (with_reducible refine At.alloc ?_ _) | (with_reducible refine At.later ?_ (by assumption)))))))
            all_goals go_ret
            all_goals exact ⟨rfl, by repeat (first | (with_reducible assumption) | (with_reducible refine blw_alloc _ ?_) | (with_reducible refine Below.drew ?_) | (with_reducible exact Below.refl _ _) | (with_reducible refine blw_put _ (by omega) ?_) | (with_reducible refine blw_call ?_ (by assumption)))⟩

theorem parts_all (a b : Int) (_ : (Lit.int .i64 a).wf = true) (_ : (Lit.int .i64 b).wf = true) (w : World) (_ : laidMetH Tryd.prog tabs w) :
    Calls Tryd.prog 7 #[.int .i64 a, .int .i64 b] w fun e w' => e = .returned (.bool true) ∧ Below w.heap.size w w' := by
  have h1 := numV_num a
  have h2 := numV_num b
  obtain ⟨k1, n1, e1⟩ : ∃ k n, numV a = (k, n) := ⟨_, _, rfl⟩
  obtain ⟨k2, n2, e2⟩ : ∃ k n, numV b = (k, n) := ⟨_, _, rfl⟩
  rw [e1] at h1
  rw [e2] at h2
  simp only at h1 h2
  by_cases k3 : k1 = 3
  · subst k3
    by_cases k3' : k2 = 3
    · subst k3'
      by_cases hz : n2 = 0
      · exact parts_c a b n1 n2 e1 e2 hz w
      have hzb : (n2 == 0) = false := by simpa using hz
      have b1 : -9007199254740991 ≤ n1 ∧ n1 ≤ 9007199254740991 := by unfold Num at h1; omega
      have b2 : -9007199254740991 ≤ n2 ∧ n2 ≤ 9007199254740991 := by unfold Num at h2; omega
      by_cases hd : n1 < 0 ∧ n1.tmod n2 = 0
      · exact parts_d a b n1 n2 e1 e2 h1 h2 b1.1 b1.2 b2.1 b2.2 hz hzb (rem_zero n1 n2 hz hd.1 hd.2) hd.1 (by simpa using hd.2) w
      have hr := rem_other n1 n2 hz hd
      obtain ⟨f1, f2, f3, f4⟩ := tmod_facts n1 n2
      have hsum : n1 - n1.tmod n2 = n2 * n1.tdiv n2 := by have := Int.tmod_add_mul_tdiv n1 n2; omega
      have hpb := parts_bound n1 n2 b1.1 b1.2
      have hs := sub_ints n1 (n1.tmod n2) (by omega) (by omega)
      rw [hsum] at hs
      obtain ⟨qk, qn, hq, hdv, hml⟩ := back_again n1 n2 hz b1.1 b1.2
      have hp : Num 3 (n2 * n1.tdiv n2) := num_int3 _ hpb.1 hpb.2
      have he : eqR 3 (n2 * n1.tdiv n2) 3 (n2 * n1.tdiv n2) = true := by unfold eqR; rw [if_neg (by simp)]; simp
      have hrn : Num 3 (n1.tmod n2) := num_int3 _ (by omega) (by omega)
      by_cases h0 : n1.tmod n2 = 0
      · rw [h0] at hr hs hrn
        by_cases hy : 0 < n2
        · exact parts_e0p a b n1 n2 e1 e2 h1 h2 b1.1 b1.2 b2.1 b2.2 hz hzb _ _ _ hrn hp hq hr hs hdv hml he hy (by omega) w
        · exact parts_e0n a b n1 n2 e1 e2 h1 h2 b1.1 b1.2 b2.1 b2.2 hz hzb _ _ _ hrn hp hq hr hs hdv hml he (by omega) (by omega) w
      · have h0b : (n1.tmod n2 == 0) = false := by simpa using h0
        by_cases hpos : 0 < n1.tmod n2
        · by_cases hy : 0 < n2
          · exact parts_epp a b n1 n2 e1 e2 h1 h2 b1.1 b1.2 b2.1 b2.2 hz hzb _ _ _ _ hrn hp hq hr hs hdv hml he hy (by omega) h0b hpos (by omega) (by omega) (by omega) (by omega) w
          · exact parts_epn a b n1 n2 e1 e2 h1 h2 b1.1 b1.2 b2.1 b2.2 hz hzb _ _ _ _ hrn hp hq hr hs hdv hml he (by omega) (by omega) h0b hpos (by omega) (by omega) (by omega) (by omega) w
        · by_cases hy : 0 < n2
          · exact parts_enp a b n1 n2 e1 e2 h1 h2 b1.1 b1.2 b2.1 b2.2 hz hzb _ _ _ _ hrn hp hq hr hs hdv hml he hy (by omega) h0b (by omega) (by omega) (by omega) (by omega) (by omega) w
          · exact parts_enn a b n1 n2 e1 e2 h1 h2 b1.1 b1.2 b2.1 b2.2 hz hzb _ _ _ _ hrn hp hq hr hs hdv hml he (by omega) (by omega) h0b (by omega) (by omega) (by omega) (by omega) (by omega) w
    · exact parts_b a b n1 k2 n2 e1 e2 (by simpa using k3') w
  · exact parts_a a b k1 n1 k2 n2 e1 e2 (by simpa using k3) w

section
set_option maxRecDepth 100000 in
theorem numParts_lifted (os : Os) (started : os.Started) (H : Type) (enc : TypeId × Value → H) :
    ReturnsInHanded {} Tryd.checked os 7 .any (fun w args => (Rows.numPartsSpec.pre enc Tryd.prog Tryd.f7 [] false w args ∧ laidMetH Tryd.prog tabs w) ∧ sizedMet enc Tryd.prog Tryd.f7 (OpenSpec.ofChange Rows.numPartsSpec) false w args)
      (Rows.numPartsSpec.post enc Tryd.prog Tryd.f7 false true false false) := by
  refine returnsInHanded_of_change_and (C := Tryd.checked) (X := fun w _ => laidMetH Tryd.prog tabs w) (fun _ _ _ hh h => h.of_heap hh) own started (by kernel_rfl) Tryd.func7
    (ChangeSpec.witness_shaped (enc := enc) (C := Tryd.checked) (os := os) (X := fun w _ => laidMetH Tryd.prog tabs w) false (World.doorLaid Tryd.prog 400 os) #[.int .i64 0, .int .i64 0] 8 rfl (World.shaped_of_RefB (by kernel_rfl) (by kernel_rfl)) (by kernel_rfl) (by kernel_rfl) (by kernel_rfl) (door_met os _)) ?_
  intro W base args ds gs before hval0 hW _ _ hL _
  have hval : ∀ (j : Nat) t v, Tryd.f7.params[j]? = some t → args[j]? = some v → Value.okWide Tryd.prog W .any base t v := hval0
  have hW' := hW
  obtain ⟨p, q, hA0, hV, rfl, hfz, hnd⟩ := hW
  have hA : DataW.TrodAll enc Tryd.prog W 0 (fun _ => true) true Tryd.f7.params.toList args.toList ds p := hA0
  rw [Tryd.params7] at hA hval
  obtain ⟨v0, vs0, d0, ds0, p0, q0, hargs, rfl, rfl, h0, r0⟩ := trodAll_cons hA
  obtain ⟨v1, vs1, d1, ds1, p1, q1, rfl, rfl, rfl, h1, r1⟩ := trodAll_cons r0
  obtain ⟨rfl, rfl, rfl⟩ := trodAll_nil r1
  obtain rfl : args = #[v0, v1] := by cases args; simp_all
  obtain ⟨rfl, rfl⟩ := trodVars_none hV
  obtain ⟨a0, rfl, rfl, rfl, w0⟩ := open_int Tryd.underlying2 (hval 0 2 v0 rfl rfl) h0
  obtain ⟨a1, rfl, rfl, rfl, w1⟩ := open_int Tryd.underlying2 (hval 1 2 v1 rfl rfl) h1
  clear hA0 hval0
  simp only [List.append_nil] at hW'
  refine (parts_all a0 a1 w0 w1 W hL).mono fun e W' ⟨he, hg⟩ => ?_
  subst he
  exact ⟨_, rfl, law_post hW' hg rfl rfl rfl (trodAll_cons_mk (shut_int Tryd.underlying2 w0) (trodAll_cons_mk (shut_int Tryd.underlying2 w1) trodAll_mk0))⟩

theorem numParts_said : Rows.NumPartsSaid :=
  OpenClaim.holds_of_wide 7 Tryd.f7 rfl rfl rfl rfl rfl rfl rfl ⟨rfl, rfl, rfl, rfl, rfl⟩ rfl rfl rfl rfl rfl (by kernel_rfl) Tryd.func7 (by kernel_rfl)
    (of_decide_eq_true (by kernel_rfl)) (by unfold Func.isWrapper; first | (rw [if_pos (by decide +kernel)]; kernel_rfl) | (rw [if_neg (by decide +kernel)]; exact ⟨rfl, rfl⟩))
    (fun os started H enc _ => numParts_lifted os started H enc)

/-- The tied card: for every input NumParts returns true. -/
theorem numParts_holds : Rows.NumPartsCardSaid :=
  Claim7.holds_tied_plain_at .later [] [.data, .data, .data] true (true, "4f3b660b2015560120ddffd10400e03a48c63fafadd340cf872e1ac63a8be49c") false
    numParts_said (fun _ h => by cases h) (by kernel_rfl) (fun _ h => by cases h) numParts_row_tie rfl ⟨rfl, rfl⟩ (by kernel_rfl) rfl
    (fun f fn hf hfn => by
      obtain rfl : f = 7 := Option.some.inj ((show Tryd.prog.funcNamed "ossuary/ossuarylaw01.NumParts" = some 7 by kernel_rfl).symm.trans hf) |>.symm
      obtain rfl : fn = Tryd.f7 := (Option.some.inj (Tryd.func7.symm.trans hfn)).symm
      exact ⟨by kernel_rfl, fun j t ht => by
        rw [Tryd.params7] at ht
        have hm : t ∈ [2] := by
          have := Array.mem_of_getElem? ht
          simp at this
          simp [this]
        have hall : ([2].all fun u => !Tryd.prog.wantsStandIn u) = true := by kernel_rfl
        exact (show Tryd.prog.wantsStandIn t = false by simpa using List.all_eq_true.1 hall t hm)⟩)
    (by kernel_rfl)
#print axioms numParts_holds
end
end Go.Proofs.YtgeaecljfmbleaaDoor
