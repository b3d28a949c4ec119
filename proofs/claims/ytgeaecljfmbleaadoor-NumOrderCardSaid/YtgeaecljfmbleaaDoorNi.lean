/- NumOrder holds: for all inputs a and b it returns true; no condition beyond the row's own (the listed tables lie as the program's text lays them). -/
import Derived.Test.YtgeaecljfmbleaaDoorNg
import Derived.Test.YtgeaecljfmbleaaDoorNy
import Derived.Test.YtgeaecljfmbleaaDoorTie
import Derived.Test.YtgeaecljfmbleaaDoorCards
import Derived.SevenTiedAt
import Derived.Deep.RegionHeld3
namespace Go.Proofs.YtgeaecljfmbleaaDoor
open Go.ChangeShapes Go.WideShapes Go.ChangeAt Go.WideMaps Go.WideElems Go.RowKit

theorem add_comm {k1 n1 k2 n2 : Int} (h1 : Num k1 n1) (h2 : Num k2 n2) : addR k2 n2 k1 n1 = addR k1 n1 k2 n2 := by
  have g1 : k1 = 6 → n1 = 0 := by unfold Num at h1; omega
  have g2 : k2 = 6 → n2 = 0 := by unfold Num at h2; omega
  clear h1 h2
  unfold addR
  rw [Int.add_comm n2 n1]
  repeat' split
  all_goals first | rfl | (exfalso; omega) | (simp only [Prod.mk.injEq, and_true]; omega)
theorem mul_comm {k1 n1 k2 n2 : Int} (h1 : Num k1 n1) (h2 : Num k2 n2) : mulR k2 n2 k1 n1 = mulR k1 n1 k2 n2 := by
  have e : (negB k2 n2 != negB k1 n1) = (negB k1 n1 != negB k2 n2) := by cases negB k1 n1 <;> cases negB k2 n2 <;> rfl
  unfold mulR
  rw [e]
  by_cases c1 : k1 = 4 ∨ k2 = 4 ∨ k1 = 5 ∧ zerB k2 n2 = true ∨ zerB k1 n1 = true ∧ k2 = 5
  · rw [if_pos c1, if_pos (by rcases c1 with h | h | ⟨h, g⟩ | ⟨h, g⟩ <;> simp_all)]
  rw [if_neg c1, if_neg (fun h => c1 (by rcases h with h | h | ⟨h, g⟩ | ⟨h, g⟩ <;> simp_all))]
  by_cases c2 : k1 = 5 ∨ k2 = 5
  · rw [if_pos c2, if_pos c2.symm]
  rw [if_neg c2, if_neg (fun h => c2 h.symm)]
  by_cases c3 : zerB k1 n1 = true ∨ zerB k2 n2 = true
  · rw [if_pos c3, if_pos c3.symm]
  rw [if_neg c3, if_neg (fun h => c3 h.symm)]
  have h14 : k1 ≠ 4 := fun h => c1 (.inl h)
  have h24 : k2 ≠ 4 := fun h => c1 (.inr (.inl h))
  have z1 : zerB k1 n1 = false := by cases h : zerB k1 n1 <;> simp_all
  have z2 : zerB k2 n2 = false := by cases h : zerB k2 n2 <;> simp_all
  obtain ⟨rfl, x0, x1, x2⟩ := num_int k1 n1 h1 h14 (fun h => c2 (.inl h)) z1
  obtain ⟨rfl, y0, y1, y2⟩ := num_int k2 n2 h2 h24 (fun h => c2 (.inr h)) z2
  have p1 := mg_pos n1 x0
  have p2 := mg_pos n2 y0
  have hc : mg n2 ≤ 9007199254740991 / mg n1 ↔ mg n1 ≤ 9007199254740991 / mg n2 := by
    rw [Int.le_ediv_iff_mul_le p1, Int.le_ediv_iff_mul_le p2, Int.mul_comm]
  by_cases hd : mg n1 ≤ 9007199254740991 / mg n2
  · rw [if_pos hd, if_pos (hc.2 hd), Int.mul_comm]
  · rw [if_neg hd, if_neg (fun h => hd (hc.1 h))]

set_option maxRecDepth 100000 in
set_option maxHeartbeats 3200000 in
theorem order_a (a b k1 n1 k2 n2 sk sn pk pn : Int) (so po : Bool) (ha : Hid (numV a = (k1, n1))) (hb : Hid (numV b = (k2, n2))) (h1 : Num k1 n1) (h2 : Num k2 n2)
    (hs : Hid (addR k1 n1 k2 n2 = (sk, sn, so))) (ht : Hid (addR k2 n2 k1 n1 = (sk, sn, so))) (hp : Hid (mulR k1 n1 k2 n2 = (pk, pn, po))) (hq : Hid (mulR k2 n2 k1 n1 = (pk, pn, po))) (hk : (k1 != 3) = true) (w : World) :
    Calls Tryd.prog 5 #[.int .i64 a, .int .i64 b] w fun e w' => e = .returned (.bool true) ∧ Below w.heap.size w w' := by
  go_enter Tryd.func5, Tryd.ntmps5
  go_upto_region 3 with (first | (go_at_call 9; ((with_reducible refine (fit_any _).mono ?_); rintro e w1 ⟨rfl, hbf⟩)))
  go_cut [5, 6] (fun s5 s6 wx => ∃ c5 c6 : Nat, s5 = .pointer (some ⟨c5, 0, none⟩) ∧ s6 = .pointer (some ⟨c6, 0, none⟩) ∧ At wx c5 k1 n1 ∧ At wx c6 k2 n2 ∧ Below w.heap.size w wx)
  case first =>
    go_wp2_with (first | (go_at_call 10; ((with_reducible refine (numOf_at _ _ _ ha _).mono ?_); rintro e w' ⟨rfl, rfl⟩)) | (go_at_call 10; ((with_reducible refine (numOf_at _ _ _ hb _).mono ?_); rintro e w' ⟨rfl, rfl⟩)))
    go_meet
    exact ⟨_, _, rfl, rfl, by repeat (first | (with_reducible assumption) | (with_reducible refine At.drew ?_) | (with_reducible refine At.put (k := 0) (n := 0) ?_) | (with_reducible refine At.far ?_ (by omega)) | (with_reducible refine At.new _ _ (by simp)) | (with_reducible refine At.alloc ?_ _) | (with_reducible refine At.later ?_ (by assumption))), by repeat (first | (with_reducible assumption) | (with_reducible refine At.drew ?_) | (with_reducible refine At.put (k := 0) (n := 0) ?_) | (with_reducible refine At.far ?_ (by omega)) | (with_reducible refine At.new _ _ (by simp)) | (with_reducible refine At.alloc ?_ _) | (with_reducible refine At.later ?_ (by assumption))), by repeat (first | (with_reducible assumption) | (with_reducible refine blw_alloc _ ?_) | (with_reducible refine Below.drew ?_) | (with_reducible exact Below.refl _ _) | (with_reducible refine blw_put _ (by omega) ?_) | (with_reducible refine blw_call ?_ (by assumption)))⟩
  case rest =>
    obtain ⟨c5, c6, rfl, rfl, a5, a6, hbw⟩ := hcut
    have la5 := At.lt a5
    have la6 := At.lt a6
    have hws := hbw.size
    go_upto_region 4 with (fail)
    go_cut [7, 8] (fun s7 s8 wx => ∃ c7 : Nat, s7 = .pointer (some ⟨c7, 0, none⟩) ∧ s8 = .bool so ∧ At wx c5 k1 n1 ∧ At wx c6 k2 n2 ∧ At wx c7 sk sn ∧ Below w.heap.size w wx)
    case first =>
      go_wp2_with (first | (go_at_call 12; ((with_reducible refine (add_at h1 h2 hs _).mono ?_); rintro e w2 ⟨rfl, hb2⟩)))
      go_meet
      exact ⟨_, rfl, rfl, by repeat (first | (with_reducible assumption) | (with_reducible refine At.drew ?_) | (with_reducible refine At.put (k := 0) (n := 0) ?_) | (with_reducible refine At.far ?_ (by omega)) | (with_reducible refine At.new _ _ (by simp)) | (with_reducible refine At.alloc ?_ _) | (with_reducible refine At.later ?_ (by assumption))), by repeat (first | (with_reducible assumption) | (with_reducible refine At.drew ?_) | (with_reducible refine At.put (k := 0) (n := 0) ?_) | (with_reducible refine At.far ?_ (by omega)) | (with_reducible refine At.new _ _ (by simp)) | (with_reducible refine At.alloc ?_ _) | (with_reducible refine At.later ?_ (by assumption))), by repeat (first | (with_reducible assumption) | (with_reducible refine At.drew ?_) | (with_reducible refine At.put (k := 0) (n := 0) ?_) | (with_reducible refine At.far ?_ (by omega)) | (with_reducible refine At.new _ _ (by simp)) | (with_reducible refine At.alloc ?_ _) | (with_reducible refine At.later ?_ (by assumption))), by repeat (first | (with_reducible assumption) | (with_reducible refine blw_alloc _ ?_) | (with_reducible refine Below.drew ?_) | (with_reducible exact Below.refl _ _) | (with_reducible refine blw_put _ (by omega) ?_) | (with_reducible refine blw_call ?_ (by assumption)))⟩
    case rest =>
      clear hbw hws la5 a5 la6 a6
      obtain ⟨c7, rfl, rfl, a5, a6, a7, hbw⟩ := hcut
      have la5 := At.lt a5
      have la6 := At.lt a6
      have la7 := At.lt a7
      have hws := hbw.size
      go_upto_region 5 with (fail)
      go_cut [9, 10] (fun s9 s10 wx => ∃ c9 : Nat, s9 = .pointer (some ⟨c9, 0, none⟩) ∧ s10 = .bool so ∧ At wx c5 k1 n1 ∧ At wx c6 k2 n2 ∧ At wx c7 sk sn ∧ At wx c9 sk sn ∧ Below w.heap.size w wx)
      case first =>
        go_wp2_with (first | (go_at_call 12; ((with_reducible refine (add_at h2 h1 ht _).mono ?_); rintro e w2 ⟨rfl, hb2⟩)))
        go_meet
        exact ⟨_, rfl, rfl, by repeat (first | (with_reducible assumption) | (with_reducible refine At.drew ?_) | (with_reducible refine At.put (k := 0) (n := 0) ?_) | (with_reducible refine At.far ?_ (by omega)) | (with_reducible refine At.new _ _ (by simp)) | (with_reducible refine At.alloc ?_ _) | (with_reducible refine At.later ?_ (by assumption))), by repeat (first | (with_reducible assumption) | (with_reducible refine At.drew ?_) | (with_reducible refine At.put (k := 0) (n := 0) ?_) | (with_reducible refine At.far ?_ (by omega)) | (with_reducible refine At.new _ _ (by simp)) | (with_reducible refine At.alloc ?_ _) | (with_reducible refine At.later ?_ (by assumption))), by repeat (first | (with_reducible assumption) | (with_reducible refine At.drew ?_) | (with_reducible refine At.put (k := 0) (n := 0) ?_) | (with_reducible refine At.far ?_ (by omega)) | (with_reducible refine At.new _ _ (by simp)) | (with_reducible refine At.alloc ?_ _) | (with_reducible refine At.later ?_ (by assumption))), by repeat (first | (with_reducible assumption) | (with_reducible refine At.drew ?_) | (with_reducible refine At.put (k := 0) (n := 0) ?_) | (with_reducible refine At.far ?_ (by omega)) | (with_reducible refine At.new _ _ (by simp)) | (with_reducible refine At.alloc ?_ _) | (with_reducible refine At.later ?_ (by assumption))), by repeat (first | (with_reducible assumption) | (with_reducible refine blw_alloc _ ?_) | (with_reducible refine Below.drew ?_) | (with_reducible exact Below.refl _ _) | (with_reducible refine blw_put _ (by omega) ?_) | (with_reducible refine blw_call ?_ (by assumption)))⟩
      case rest =>
        clear hbw hws la5 a5 la6 a6 la7 a7
        obtain ⟨c9, rfl, rfl, a5, a6, a7, a9, hbw⟩ := hcut
        have la5 := At.lt a5
        have la6 := At.lt a6
        have la7 := At.lt a7
        have la9 := At.lt a9
        have hws := hbw.size
        go_upto_region 6 with (fail)
        go_cut [11, 12] (fun s11 s12 wx => ∃ c11 : Nat, s11 = .pointer (some ⟨c11, 0, none⟩) ∧ s12 = .bool po ∧ At wx c5 k1 n1 ∧ At wx c6 k2 n2 ∧ At wx c7 sk sn ∧ At wx c9 sk sn ∧ At wx c11 pk pn ∧ Below w.heap.size w wx)
        case first =>
          go_wp2_with (first | (go_at_call 14; ((with_reducible refine (mul_at h1 h2 hp _).mono ?_); rintro e w2 ⟨rfl, hb2⟩)))
          go_meet
          exact ⟨_, rfl, rfl, by repeat (first | (with_reducible assumption) | (with_reducible refine At.drew ?_) | (with_reducible refine At.put (k := 0) (n := 0) ?_) | (with_reducible refine At.far ?_ (by omega)) | (with_reducible refine At.new _ _ (by simp)) | (with_reducible refine At.alloc ?_ _) | (with_reducible refine At.later ?_ (by assumption))), by repeat (first | (with_reducible assumption) | (with_reducible refine At.drew ?_) | (with_reducible refine At.put (k := 0) (n := 0) ?_) | (with_reducible refine At.far ?_ (by omega)) | (with_reducible refine At.new _ _ (by simp)) | (with_reducible refine At.alloc ?_ _) | (with_reducible refine At.later ?_ (by assumption))), by repeat (first | (with_reducible assumption) | (with_reducible refine At.drew ?_) | (with_reducible refine At.put (k := 0) (n := 0) ?_) | (with_reducible refine At.far ?_ (by omega)) | (with_reducible refine At.new _ _ (by simp)) | (with_reducible refine At.alloc ?_ _) | (with_reducible refine At.later ?_ (by assumption))), by repeat (first | (with_reducible assumption) | (with_reducible refine At.drew ?_) | (with_reducible refine At.put (k := 0) (n := 0) ?_) | (with_reducible refine At.far ?_ (by omega)) | (with_reducible refine At.new _ _ (by simp)) | (with_reducible refine At.alloc ?_ _) | (with_reducible refine At.later ?_ (by assumption))), by repeat (first | (with_reducible assumption) | (with_reducible refine At.drew ?_) | (with_reducible refine At.put (k := 0) (n := 0) ?_) | (with_reducible refine At.far ?_ (by omega)) | (with_reducible refine At.new _ _ (by simp)) | (with_reducible refine At.alloc ?_ _) | (with_reducible refine At.later ?_ (by assumption))), by repeat (first | (with_reducible assumption) | (with_reducible refine blw_alloc _ ?_) | (with_reducible refine Below.drew ?_) | (with_reducible exact Below.refl _ _) | (with_reducible refine blw_put _ (by omega) ?_) | (with_reducible refine blw_call ?_ (by assumption)))⟩
        case rest =>
          clear hbw hws la5 a5 la6 a6 la7 a7 la9 a9
          obtain ⟨c11, rfl, rfl, a5, a6, a7, a9, a11, hbw⟩ := hcut
          have la5 := At.lt a5
          have la6 := At.lt a6
          have la7 := At.lt a7
          have la9 := At.lt a9
          have la11 := At.lt a11
          have hws := hbw.size
          go_upto_region 7 with (fail)
          go_cut [13, 14] (fun s13 s14 wx => ∃ c13 : Nat, s13 = .pointer (some ⟨c13, 0, none⟩) ∧ s14 = .bool po ∧ At wx c5 k1 n1 ∧ At wx c6 k2 n2 ∧ At wx c7 sk sn ∧ At wx c9 sk sn ∧ At wx c11 pk pn ∧ At wx c13 pk pn ∧ Below w.heap.size w wx)
          case first =>
            go_wp2_with (first | (go_at_call 14; ((with_reducible refine (mul_at h2 h1 hq _).mono ?_); rintro e w2 ⟨rfl, hb2⟩)))
            go_meet
            exact ⟨_, rfl, rfl, by repeat (first | (with_reducible assumption) | (with_reducible refine At.drew ?_) | (with_reducible refine At.put (k := 0) (n := 0) ?_) | (with_reducible refine At.far ?_ (by omega)) | (with_reducible refine At.new _ _ (by simp)) | (with_reducible refine At.alloc ?_ _) | (with_reducible refine At.later ?_ (by assumption))), by repeat (first | (with_reducible assumption) | (with_reducible refine At.drew ?_) | (with_reducible refine At.put (k := 0) (n := 0) ?_) | (with_reducible refine At.far ?_ (by omega)) | (with_reducible refine At.new _ _ (by simp)) | (with_reducible refine At.alloc ?_ _) | (with_reducible refine At.later ?_ (by assumption))), by repeat (first | (with_reducible assumption) | (with_reducible refine At.drew ?_) | (with_reducible refine At.put (k := 0) (n := 0) ?_) | (with_reducible refine At.far ?_ (by omega)) | (with_reducible refine At.new _ _ (by simp)) | (with_reducible refine At.alloc ?_ _) | (with_reducible refine At.later ?_ (by assumption))), by repeat (first | (with_reducible assumption) | (with_reducible refine At.drew ?_) | (with_reducible refine At.put (k := 0) (n := 0) ?_) | (with_reducible refine At.far ?_ (by omega)) | (with_reducible refine At.new _ _ (by simp)) | (with_reducible refine At.alloc ?_ _) | (with_reducible refine At.later ?_ (by assumption))), by repeat (first | (with_reducible assumption) | (with_reducible refine At.drew ?_) | (with_reducible refine At.put (k := 0) (n := 0) ?_) | (with_reducible refine At.far ?_ (by omega)) | (with_reducible refine At.new _ _ (by simp)) | (with_reducible refine At.alloc ?_ _) | (with_reducible refine At.later ?_ (by assumption))), by repeat (first | (with_reducible assumption) | (with_reducible refine At.drew ?_) | (with_reducible refine At.put (k := 0) (n := 0) ?_) | (with_reducible refine At.far ?_ (by omega)) | (with_reducible refine At.new _ _ (by simp)) | (with_reducible refine At.alloc ?_ _) | (with_reducible refine At.later ?_ (by assumption))), by repeat (first | (with_reducible assumption) | (with_reducible refine blw_alloc _ ?_) | (with_reducible refine Below.drew ?_) | (with_reducible exact Below.refl _ _) | (with_reducible refine blw_put _ (by omega) ?_) | (with_reducible refine blw_call ?_ (by assumption)))⟩
          case rest =>
            clear hbw hws la5 a5 la6 a6 la7 a7 la9 a9 la11 a11
            obtain ⟨c13, rfl, rfl, a5, a6, a7, a9, a11, a13, hbw⟩ := hcut
            have la5 := At.lt a5
            have la6 := At.lt a6
            have la7 := At.lt a7
            have la9 := At.lt a9
            have la11 := At.lt a11
            have la13 := At.lt a13
            have hws := hbw.size
            go_wp2_with fail
            go_ret
            exact ⟨rfl, by repeat (first | (with_reducible assumption) | (with_reducible refine blw_alloc _ ?_) | (with_reducible refine Below.drew ?_) | (with_reducible exact Below.refl _ _) | (with_reducible refine blw_put _ (by omega) ?_) | (with_reducible refine blw_call ?_ (by assumption)))⟩

set_option maxRecDepth 100000 in
set_option maxHeartbeats 3200000 in
theorem order_b (a b n1 k2 n2 sk sn pk pn : Int) (so po : Bool) (ha : Hid (numV a = (3, n1))) (hb : Hid (numV b = (k2, n2))) (h1 : Num 3 n1) (h2 : Num k2 n2)
    (hs : Hid (addR 3 n1 k2 n2 = (sk, sn, so))) (ht : Hid (addR k2 n2 3 n1 = (sk, sn, so))) (hp : Hid (mulR 3 n1 k2 n2 = (pk, pn, po))) (hq : Hid (mulR k2 n2 3 n1 = (pk, pn, po))) (hk : (k2 != 3) = true) (w : World) :
    Calls Tryd.prog 5 #[.int .i64 a, .int .i64 b] w fun e w' => e = .returned (.bool true) ∧ Below w.heap.size w w' := by
  go_enter Tryd.func5, Tryd.ntmps5
  go_upto_region 3 with (first | (go_at_call 9; ((with_reducible refine (fit_any _).mono ?_); rintro e w1 ⟨rfl, hbf⟩)))
  go_cut [5, 6] (fun s5 s6 wx => ∃ c5 c6 : Nat, s5 = .pointer (some ⟨c5, 0, none⟩) ∧ s6 = .pointer (some ⟨c6, 0, none⟩) ∧ At wx c5 3 n1 ∧ At wx c6 k2 n2 ∧ Below w.heap.size w wx)
  case first =>
    go_wp2_with (first | (go_at_call 10; ((with_reducible refine (numOf_at _ _ _ ha _).mono ?_); rintro e w' ⟨rfl, rfl⟩)) | (go_at_call 10; ((with_reducible refine (numOf_at _ _ _ hb _).mono ?_); rintro e w' ⟨rfl, rfl⟩)))
    go_meet
    exact ⟨_, _, rfl, rfl, by repeat (first | (with_reducible assumption) | (with_reducible refine At.drew ?_) | (with_reducible refine At.put (k := 0) (n := 0) ?_) | (with_reducible refine At.far ?_ (by omega)) | (with_reducible refine At.new _ _ (by simp)) | (with_reducible refine At.alloc ?_ _) | (with_reducible refine At.later ?_ (by assumption))), by repeat (first | (with_reducible assumption) | (with_reducible refine At.drew ?_) | (with_reducible refine At.put (k := 0) (n := 0) ?_) | (with_reducible refine At.far ?_ (by omega)) | (with_reducible refine At.new _ _ (by simp)) | (with_reducible refine At.alloc ?_ _) | (with_reducible refine At.later ?_ (by assumption))), by repeat (first | (with_reducible assumption) | (with_reducible refine blw_alloc _ ?_) | (with_reducible refine Below.drew ?_) | (with_reducible exact Below.refl _ _) | (with_reducible refine blw_put _ (by omega) ?_) | (with_reducible refine blw_call ?_ (by assumption)))⟩
  case rest =>
    obtain ⟨c5, c6, rfl, rfl, a5, a6, hbw⟩ := hcut
    have la5 := At.lt a5
    have la6 := At.lt a6
    have hws := hbw.size
    go_upto_region 4 with (fail)
    go_cut [7, 8] (fun s7 s8 wx => ∃ c7 : Nat, s7 = .pointer (some ⟨c7, 0, none⟩) ∧ s8 = .bool so ∧ At wx c5 3 n1 ∧ At wx c6 k2 n2 ∧ At wx c7 sk sn ∧ Below w.heap.size w wx)
    case first =>
      go_wp2_with (first | (go_at_call 12; ((with_reducible refine (add_at h1 h2 hs _).mono ?_); rintro e w2 ⟨rfl, hb2⟩)))
      go_meet
      exact ⟨_, rfl, rfl, by repeat (first | (with_reducible assumption) | (with_reducible refine At.drew ?_) | (with_reducible refine At.put (k := 0) (n := 0) ?_) | (with_reducible refine At.far ?_ (by omega)) | (with_reducible refine At.new _ _ (by simp)) | (with_reducible refine At.alloc ?_ _) | (with_reducible refine At.later ?_ (by assumption))), by repeat (first | (with_reducible assumption) | (with_reducible refine At.drew ?_) | (with_reducible refine At.put (k := 0) (n := 0) ?_) | (with_reducible refine At.far ?_ (by omega)) | (with_reducible refine At.new _ _ (by simp)) | (with_reducible refine At.alloc ?_ _) | (with_reducible refine At.later ?_ (by assumption))), by repeat (first | (with_reducible assumption) | (with_reducible refine At.drew ?_) | (with_reducible refine At.put (k := 0) (n := 0) ?_) | (with_reducible refine At.far ?_ (by omega)) | (with_reducible refine At.new _ _ (by simp)) | (with_reducible refine At.alloc ?_ _) | (with_reducible refine At.later ?_ (by assumption))), by repeat (first | (with_reducible assumption) | (with_reducible refine blw_alloc _ ?_) | (with_reducible refine Below.drew ?_) | (with_reducible exact Below.refl _ _) | (with_reducible refine blw_put _ (by omega) ?_) | (with_reducible refine blw_call ?_ (by assumption)))⟩
    case rest =>
      clear hbw hws la5 a5 la6 a6
      obtain ⟨c7, rfl, rfl, a5, a6, a7, hbw⟩ := hcut
      have la5 := At.lt a5
      have la6 := At.lt a6
      have la7 := At.lt a7
      have hws := hbw.size
      go_upto_region 5 with (fail)
      go_cut [9, 10] (fun s9 s10 wx => ∃ c9 : Nat, s9 = .pointer (some ⟨c9, 0, none⟩) ∧ s10 = .bool so ∧ At wx c5 3 n1 ∧ At wx c6 k2 n2 ∧ At wx c7 sk sn ∧ At wx c9 sk sn ∧ Below w.heap.size w wx)
      case first =>
        go_wp2_with (first | (go_at_call 12; ((with_reducible refine (add_at h2 h1 ht _).mono ?_); rintro e w2 ⟨rfl, hb2⟩)))
        go_meet
        exact ⟨_, rfl, rfl, by repeat (first | (with_reducible assumption) | (with_reducible refine At.drew ?_) | (with_reducible refine At.put (k := 0) (n := 0) ?_) | (with_reducible refine At.far ?_ (by omega)) | (with_reducible refine At.new _ _ (by simp)) | (with_reducible refine At.alloc ?_ _) | (with_reducible refine At.later ?_ (by assumption))), by repeat (first | (with_reducible assumption) | (with_reducible refine At.drew ?_) | (with_reducible refine At.put (k := 0) (n := 0) ?_) | (with_reducible refine At.far ?_ (by omega)) | (with_reducible refine At.new _ _ (by simp)) | (with_reducible refine At.alloc ?_ _) | (with_reducible refine At.later ?_ (by assumption))), by repeat (first | (with_reducible assumption) | (with_reducible refine At.drew ?_) | (with_reducible refine At.put (k := 0) (n := 0) ?_) | (with_reducible refine At.far ?_ (by omega)) | (with_reducible refine At.new _ _ (by simp)) | (with_reducible refine At.alloc ?_ _) | (with_reducible refine At.later ?_ (by assumption))), by repeat (first | (with_reducible assumption) | (with_reducible refine At.drew ?_) | (with_reducible refine At.put (k := 0) (n := 0) ?_) | (with_reducible refine At.far ?_ (by omega)) | (with_reducible refine At.new _ _ (by simp)) | (with_reducible refine At.alloc ?_ _) | (with_reducible refine At.later ?_ (by assumption))), by repeat (first | (with_reducible assumption) | (with_reducible refine blw_alloc _ ?_) | (with_reducible refine Below.drew ?_) | (with_reducible exact Below.refl _ _) | (with_reducible refine blw_put _ (by omega) ?_) | (with_reducible refine blw_call ?_ (by assumption)))⟩
      case rest =>
        clear hbw hws la5 a5 la6 a6 la7 a7
        obtain ⟨c9, rfl, rfl, a5, a6, a7, a9, hbw⟩ := hcut
        have la5 := At.lt a5
        have la6 := At.lt a6
        have la7 := At.lt a7
        have la9 := At.lt a9
        have hws := hbw.size
        go_upto_region 6 with (fail)
        go_cut [11, 12] (fun s11 s12 wx => ∃ c11 : Nat, s11 = .pointer (some ⟨c11, 0, none⟩) ∧ s12 = .bool po ∧ At wx c5 3 n1 ∧ At wx c6 k2 n2 ∧ At wx c7 sk sn ∧ At wx c9 sk sn ∧ At wx c11 pk pn ∧ Below w.heap.size w wx)
        case first =>
          go_wp2_with (first | (go_at_call 14; ((with_reducible refine (mul_at h1 h2 hp _).mono ?_); rintro e w2 ⟨rfl, hb2⟩)))
          go_meet
          exact ⟨_, rfl, rfl, by repeat (first | (with_reducible assumption) | (with_reducible refine At.drew ?_) | (with_reducible refine At.put (k := 0) (n := 0) ?_) | (with_reducible refine At.far ?_ (by omega)) | (with_reducible refine At.new _ _ (by simp)) | (with_reducible refine At.alloc ?_ _) | (with_reducible refine At.later ?_ (by assumption))), by repeat (first | (with_reducible assumption) | (with_reducible refine At.drew ?_) | (with_reducible refine At.put (k := 0) (n := 0) ?_) | (with_reducible refine At.far ?_ (by omega)) | (with_reducible refine At.new _ _ (by simp)) | (with_reducible refine At.alloc ?_ _) | (with_reducible refine At.later ?_ (by assumption))), by repeat (first | (with_reducible assumption) | (with_reducible refine At.drew ?_) | (with_reducible refine At.put (k := 0) (n := 0) ?_) | (with_reducible refine At.far ?_ (by omega)) | (with_reducible refine At.new _ _ (by simp)) | (with_reducible refine At.alloc ?_ _) | (with_reducible refine At.later ?_ (by assumption))), by repeat (first | (with_reducible assumption) | (with_reducible refine At.drew ?_) | (with_reducible refine At.put (k := 0) (n := 0) ?_) | (with_reducible refine At.far ?_ (by omega)) | (with_reducible refine At.new _ _ (by simp)) | (with_reducible refine At.alloc ?_ _) | (with_reducible refine At.later ?_ (by assumption))), by repeat (first | (with_reducible assumption) | (with_reducible refine At.drew ?_) | (with_reducible refine At.put (k := 0) (n := 0) ?_) | (with_reducible refine At.far ?_ (by omega)) | (with_reducible refine At.new _ _ (by simp)) | (with_reducible refine At.alloc ?_ _) | (with_reducible refine At.later ?_ (by assumption))), by repeat (first | (with_reducible assumption) | (with_reducible refine blw_alloc _ ?_) | (with_reducible refine Below.drew ?_) | (with_reducible exact Below.refl _ _) | (with_reducible refine blw_put _ (by omega) ?_) | (with_reducible refine blw_call ?_ (by assumption)))⟩
        case rest =>
          clear hbw hws la5 a5 la6 a6 la7 a7 la9 a9
          obtain ⟨c11, rfl, rfl, a5, a6, a7, a9, a11, hbw⟩ := hcut
          have la5 := At.lt a5
          have la6 := At.lt a6
          have la7 := At.lt a7
          have la9 := At.lt a9
          have la11 := At.lt a11
          have hws := hbw.size
          go_upto_region 7 with (fail)
          go_cut [13, 14] (fun s13 s14 wx => ∃ c13 : Nat, s13 = .pointer (some ⟨c13, 0, none⟩) ∧ s14 = .bool po ∧ At wx c5 3 n1 ∧ At wx c6 k2 n2 ∧ At wx c7 sk sn ∧ At wx c9 sk sn ∧ At wx c11 pk pn ∧ At wx c13 pk pn ∧ Below w.heap.size w wx)
          case first =>
            go_wp2_with (first | (go_at_call 14; ((with_reducible refine (mul_at h2 h1 hq _).mono ?_); rintro e w2 ⟨rfl, hb2⟩)))
            go_meet
            exact ⟨_, rfl, rfl, by repeat (first | (with_reducible assumption) | (with_reducible refine At.drew ?_) | (with_reducible refine At.put (k := 0) (n := 0) ?_) | (with_reducible refine At.far ?_ (by omega)) | (with_reducible refine At.new _ _ (by simp)) | (with_reducible refine At.alloc ?_ _) | (with_reducible refine At.later ?_ (by assumption))), by repeat (first | (with_reducible assumption) | (with_reducible refine At.drew ?_) | (with_reducible refine At.put (k := 0) (n := 0) ?_) | (with_reducible refine At.far ?_ (by omega)) | (with_reducible refine At.new _ _ (by simp)) | (with_reducible refine At.alloc ?_ _) | (with_reducible refine At.later ?_ (by assumption))), by repeat (first | (with_reducible assumption) | (with_reducible refine At.drew ?_) | (with_reducible refine At.put (k := 0) (n := 0) ?_) | (with_reducible refine At.far ?_ (by omega)) | (with_reducible refine At.new _ _ (by simp)) | (with_reducible refine At.alloc ?_ _) | (with_reducible refine At.later ?_ (by assumption))), by repeat (first | (with_reducible assumption) | (with_reducible refine At.drew ?_) | (with_reducible refine At.put (k := 0) (n := 0) ?_) | (with_reducible refine At.far ?_ (by omega)) | (with_reducible refine At.new _ _ (by simp)) | (with_reducible refine At.alloc ?_ _) | (with_reducible refine At.later ?_ (by assumption))), by repeat (first | (with_reducible assumption) | (with_reducible refine At.drew ?_) | (with_reducible refine At.put (k := 0) (n := 0) ?_) | (with_reducible refine At.far ?_ (by omega)) | (with_reducible refine At.new _ _ (by simp)) | (with_reducible refine At.alloc ?_ _) | (with_reducible refine At.later ?_ (by assumption))), by repeat (first | (with_reducible assumption) | (with_reducible refine At.drew ?_) | (with_reducible refine At.put (k := 0) (n := 0) ?_) | (with_reducible refine At.far ?_ (by omega)) | (with_reducible refine At.new _ _ (by simp)) | (with_reducible refine At.alloc ?_ _) | (with_reducible refine At.later ?_ (by assumption))), by repeat (first | (with_reducible assumption) | (with_reducible refine blw_alloc _ ?_) | (with_reducible refine Below.drew ?_) | (with_reducible exact Below.refl _ _) | (with_reducible refine blw_put _ (by omega) ?_) | (with_reducible refine blw_call ?_ (by assumption)))⟩
          case rest =>
            clear hbw hws la5 a5 la6 a6 la7 a7 la9 a9 la11 a11
            obtain ⟨c13, rfl, rfl, a5, a6, a7, a9, a11, a13, hbw⟩ := hcut
            have la5 := At.lt a5
            have la6 := At.lt a6
            have la7 := At.lt a7
            have la9 := At.lt a9
            have la11 := At.lt a11
            have la13 := At.lt a13
            have hws := hbw.size
            go_wp2_with fail
            go_ret
            exact ⟨rfl, by repeat (first | (with_reducible assumption) | (with_reducible refine blw_alloc _ ?_) | (with_reducible refine Below.drew ?_) | (with_reducible exact Below.refl _ _) | (with_reducible refine blw_put _ (by omega) ?_) | (with_reducible refine blw_call ?_ (by assumption)))⟩

set_option maxRecDepth 100000 in
set_option maxHeartbeats 3200000 in
theorem order_c (a b n1 n2 sk sn pk pn : Int) (po : Bool) (ha : Hid (numV a = (3, n1))) (hb : Hid (numV b = (3, n2))) (h1 : Num 3 n1) (h2 : Num 3 n2)
    (hs : Hid (addR 3 n1 3 n2 = (sk, sn, false))) (ht : Hid (addR 3 n2 3 n1 = (sk, sn, false))) (hp : Hid (mulR 3 n1 3 n2 = (pk, pn, po))) (hq : Hid (mulR 3 n2 3 n1 = (pk, pn, po)))  (w : World) :
    Calls Tryd.prog 5 #[.int .i64 a, .int .i64 b] w fun e w' => e = .returned (.bool true) ∧ Below w.heap.size w w' := by
  go_enter Tryd.func5, Tryd.ntmps5
  go_upto_region 3 with (first | (go_at_call 9; ((with_reducible refine (fit_any _).mono ?_); rintro e w1 ⟨rfl, hbf⟩)))
  go_cut [5, 6] (fun s5 s6 wx => ∃ c5 c6 : Nat, s5 = .pointer (some ⟨c5, 0, none⟩) ∧ s6 = .pointer (some ⟨c6, 0, none⟩) ∧ At wx c5 3 n1 ∧ At wx c6 3 n2 ∧ Below w.heap.size w wx)
  case first =>
    go_wp2_with (first | (go_at_call 10; ((with_reducible refine (numOf_at _ _ _ ha _).mono ?_); rintro e w' ⟨rfl, rfl⟩)) | (go_at_call 10; ((with_reducible refine (numOf_at _ _ _ hb _).mono ?_); rintro e w' ⟨rfl, rfl⟩)))
    go_meet
    exact ⟨_, _, rfl, rfl, by repeat (first | (with_reducible assumption) | (with_reducible refine At.drew ?_) | (with_reducible refine At.put (k := 0) (n := 0) ?_) | (with_reducible refine At.far ?_ (by omega)) | (with_reducible refine At.new _ _ (by simp)) | (with_reducible refine At.alloc ?_ _) | (with_reducible refine At.later ?_ (by assumption))), by repeat (first | (with_reducible assumption) | (with_reducible refine At.drew ?_) | (with_reducible refine At.put (k := 0) (n := 0) ?_) | (with_reducible refine At.far ?_ (by omega)) | (with_reducible refine At.new _ _ (by simp)) | (with_reducible refine At.alloc ?_ _) | (with_reducible refine At.later ?_ (by assumption))), by repeat (first | (with_reducible assumption) | (with_reducible refine blw_alloc _ ?_) | (with_reducible refine Below.drew ?_) | (with_reducible exact Below.refl _ _) | (with_reducible refine blw_put _ (by omega) ?_) | (with_reducible refine blw_call ?_ (by assumption)))⟩
  case rest =>
    obtain ⟨c5, c6, rfl, rfl, a5, a6, hbw⟩ := hcut
    have la5 := At.lt a5
    have la6 := At.lt a6
    have hws := hbw.size
    go_upto_region 4 with (fail)
    go_cut [7, 8] (fun s7 s8 wx => ∃ c7 : Nat, s7 = .pointer (some ⟨c7, 0, none⟩) ∧ s8 = .bool false ∧ At wx c5 3 n1 ∧ At wx c6 3 n2 ∧ At wx c7 sk sn ∧ Below w.heap.size w wx)
    case first =>
      go_wp2_with (first | (go_at_call 12; ((with_reducible refine (add_at h1 h2 hs _).mono ?_); rintro e w2 ⟨rfl, hb2⟩)))
      go_meet
      exact ⟨_, rfl, rfl, by repeat (first | (with_reducible assumption) | (with_reducible refine At.drew ?_) | (with_reducible refine At.put (k := 0) (n := 0) ?_) | (with_reducible refine At.far ?_ (by omega)) | (with_reducible refine At.new _ _ (by simp)) | (with_reducible refine At.alloc ?_ _) | (with_reducible refine At.later ?_ (by assumption))), by repeat (first | (with_reducible assumption) | (with_reducible refine At.drew ?_) | (with_reducible refine At.put (k := 0) (n := 0) ?_) | (with_reducible refine At.far ?_ (by omega)) | (with_reducible refine At.new _ _ (by simp)) | (with_reducible refine At.alloc ?_ _) | (with_reducible refine At.later ?_ (by assumption))), by repeat (first | (with_reducible assumption) | (with_reducible refine At.drew ?_) | (with_reducible refine At.put (k := 0) (n := 0) ?_) | (with_reducible refine At.far ?_ (by omega)) | (with_reducible refine At.new _ _ (by simp)) | (with_reducible refine At.alloc ?_ _) | (with_reducible refine At.later ?_ (by assumption))), by repeat (first | (with_reducible assumption) | (with_reducible refine blw_alloc _ ?_) | (with_reducible refine Below.drew ?_) | (with_reducible exact Below.refl _ _) | (with_reducible refine blw_put _ (by omega) ?_) | (with_reducible refine blw_call ?_ (by assumption)))⟩
    case rest =>
      clear hbw hws la5 a5 la6 a6
      obtain ⟨c7, rfl, rfl, a5, a6, a7, hbw⟩ := hcut
      have la5 := At.lt a5
      have la6 := At.lt a6
      have la7 := At.lt a7
      have hws := hbw.size
      go_upto_region 5 with (fail)
      go_cut [9, 10] (fun s9 s10 wx => ∃ c9 : Nat, s9 = .pointer (some ⟨c9, 0, none⟩) ∧ s10 = .bool false ∧ At wx c5 3 n1 ∧ At wx c6 3 n2 ∧ At wx c7 sk sn ∧ At wx c9 sk sn ∧ Below w.heap.size w wx)
      case first =>
        go_wp2_with (first | (go_at_call 12; ((with_reducible refine (add_at h2 h1 ht _).mono ?_); rintro e w2 ⟨rfl, hb2⟩)))
        go_meet
        exact ⟨_, rfl, rfl, by repeat (first | (with_reducible assumption) | (with_reducible refine At.drew ?_) | (with_reducible refine At.put (k := 0) (n := 0) ?_) | (with_reducible refine At.far ?_ (by omega)) | (with_reducible refine At.new _ _ (by simp)) | (with_reducible refine At.alloc ?_ _) | (with_reducible refine At.later ?_ (by assumption))), by repeat (first | (with_reducible assumption) | (with_reducible refine At.drew ?_) | (with_reducible refine At.put (k := 0) (n := 0) ?_) | (with_reducible refine At.far ?_ (by omega)) | (with_reducible refine At.new _ _ (by simp)) | (with_reducible refine At.alloc ?_ _) | (with_reducible refine At.later ?_ (by assumption))), by repeat (first | (with_reducible assumption) | (with_reducible refine At.drew ?_) | (with_reducible refine At.put (k := 0) (n := 0) ?_) | (with_reducible refine At.far ?_ (by omega)) | (with_reducible refine At.new _ _ (by simp)) | (with_reducible refine At.alloc ?_ _) | (with_reducible refine At.later ?_ (by assumption))), by repeat (first | (with_reducible assumption) | (with_reducible refine At.drew ?_) | (with_reducible refine At.put (k := 0) (n := 0) ?_) | (with_reducible refine At.far ?_ (by omega)) | (with_reducible refine At.new _ _ (by simp)) | (with_reducible refine At.alloc ?_ _) | (with_reducible refine At.later ?_ (by assumption))), by repeat (first | (with_reducible assumption) | (with_reducible refine blw_alloc _ ?_) | (with_reducible refine Below.drew ?_) | (with_reducible exact Below.refl _ _) | (with_reducible refine blw_put _ (by omega) ?_) | (with_reducible refine blw_call ?_ (by assumption)))⟩
      case rest =>
        clear hbw hws la5 a5 la6 a6 la7 a7
        obtain ⟨c9, rfl, rfl, a5, a6, a7, a9, hbw⟩ := hcut
        have la5 := At.lt a5
        have la6 := At.lt a6
        have la7 := At.lt a7
        have la9 := At.lt a9
        have hws := hbw.size
        go_upto_region 6 with (fail)
        go_cut [11, 12] (fun s11 s12 wx => ∃ c11 : Nat, s11 = .pointer (some ⟨c11, 0, none⟩) ∧ s12 = .bool po ∧ At wx c5 3 n1 ∧ At wx c6 3 n2 ∧ At wx c7 sk sn ∧ At wx c9 sk sn ∧ At wx c11 pk pn ∧ Below w.heap.size w wx)
        case first =>
          go_wp2_with (first | (go_at_call 14; ((with_reducible refine (mul_at h1 h2 hp _).mono ?_); rintro e w2 ⟨rfl, hb2⟩)))
          go_meet
          exact ⟨_, rfl, rfl, by repeat (first | (with_reducible assumption) | (with_reducible refine At.drew ?_) | (with_reducible refine At.put (k := 0) (n := 0) ?_) | (with_reducible refine At.far ?_ (by omega)) | (with_reducible refine At.new _ _ (by simp)) | (with_reducible refine At.alloc ?_ _) | (with_reducible refine At.later ?_ (by assumption))), by repeat (first | (with_reducible assumption) | (with_reducible refine At.drew ?_) | (with_reducible refine At.put (k := 0) (n := 0) ?_) | (with_reducible refine At.far ?_ (by omega)) | (with_reducible refine At.new _ _ (by simp)) | (with_reducible refine At.alloc ?_ _) | (with_reducible refine At.later ?_ (by assumption))), by repeat (first | (with_reducible assumption) | (with_reducible refine At.drew ?_) | (with_reducible refine At.put (k := 0) (n := 0) ?_) | (with_reducible refine At.far ?_ (by omega)) | (with_reducible refine At.new _ _ (by simp)) | (with_reducible refine At.alloc ?_ _) | (with_reducible refine At.later ?_ (by assumption))), by repeat (first | (with_reducible assumption) | (with_reducible refine At.drew ?_) | (with_reducible refine At.put (k := 0) (n := 0) ?_) | (with_reducible refine At.far ?_ (by omega)) | (with_reducible refine At.new _ _ (by simp)) | (with_reducible refine At.alloc ?_ _) | (with_reducible refine At.later ?_ (by assumption))), by repeat (first | (with_reducible assumption) | (with_reducible refine At.drew ?_) | (with_reducible refine At.put (k := 0) (n := 0) ?_) | (with_reducible refine At.far ?_ (by omega)) | (with_reducible refine At.new _ _ (by simp)) | (with_reducible refine At.alloc ?_ _) | (with_reducible refine At.later ?_ (by assumption))), by repeat (first | (with_reducible assumption) | (with_reducible refine blw_alloc _ ?_) | (with_reducible refine Below.drew ?_) | (with_reducible exact Below.refl _ _) | (with_reducible refine blw_put _ (by omega) ?_) | (with_reducible refine blw_call ?_ (by assumption)))⟩
        case rest =>
          clear hbw hws la5 a5 la6 a6 la7 a7 la9 a9
          obtain ⟨c11, rfl, rfl, a5, a6, a7, a9, a11, hbw⟩ := hcut
          have la5 := At.lt a5
          have la6 := At.lt a6
          have la7 := At.lt a7
          have la9 := At.lt a9
          have la11 := At.lt a11
          have hws := hbw.size
          go_upto_region 7 with (fail)
          go_cut [13, 14] (fun s13 s14 wx => ∃ c13 : Nat, s13 = .pointer (some ⟨c13, 0, none⟩) ∧ s14 = .bool po ∧ At wx c5 3 n1 ∧ At wx c6 3 n2 ∧ At wx c7 sk sn ∧ At wx c9 sk sn ∧ At wx c11 pk pn ∧ At wx c13 pk pn ∧ Below w.heap.size w wx)
          case first =>
            go_wp2_with (first | (go_at_call 14; ((with_reducible refine (mul_at h2 h1 hq _).mono ?_); rintro e w2 ⟨rfl, hb2⟩)))
            go_meet
            exact ⟨_, rfl, rfl, by repeat (first | (with_reducible assumption) | (with_reducible refine At.drew ?_) | (with_reducible refine At.put (k := 0) (n := 0) ?_) | (with_reducible refine At.far ?_ (by omega)) | (with_reducible refine At.new _ _ (by simp)) | (with_reducible refine At.alloc ?_ _) | (with_reducible refine At.later ?_ (by assumption))), by repeat (first | (with_reducible assumption) | (with_reducible refine At.drew ?_) | (with_reducible refine At.put (k := 0) (n := 0) ?_) | (with_reducible refine At.far ?_ (by omega)) | (with_reducible refine At.new _ _ (by simp)) | (with_reducible refine At.alloc ?_ _) | (with_reducible refine At.later ?_ (by assumption))), by repeat (first | (with_reducible assumption) | (with_reducible refine At.drew ?_) | (with_reducible refine At.put (k := 0) (n := 0) ?_) | (with_reducible refine At.far ?_ (by omega)) | (with_reducible refine At.new _ _ (by simp)) | (with_reducible refine At.alloc ?_ _) | (with_reducible refine At.later ?_ (by assumption))), by repeat (first | (with_reducible assumption) | (with_reducible refine At.drew ?_) | (with_reducible refine At.put (k := 0) (n := 0) ?_) | (with_reducible refine At.far ?_ (by omega)) | (with_reducible refine At.new _ _ (by simp)) | (with_reducible refine At.alloc ?_ _) | (with_reducible refine At.later ?_ (by assumption))), by repeat (first | (with_reducible assumption) | (with_reducible refine At.drew ?_) | (with_reducible refine At.put (k := 0) (n := 0) ?_) | (with_reducible refine At.far ?_ (by omega)) | (with_reducible refine At.new _ _ (by simp)) | (with_reducible refine At.alloc ?_ _) | (with_reducible refine At.later ?_ (by assumption))), by repeat (first | (with_reducible assumption) | (with_reducible refine At.drew ?_) | (with_reducible refine At.put (k := 0) (n := 0) ?_) | (with_reducible refine At.far ?_ (by omega)) | (with_reducible refine At.new _ _ (by simp)) | (with_reducible refine At.alloc ?_ _) | (with_reducible refine At.later ?_ (by assumption))), by repeat (first | (with_reducible assumption) | (with_reducible refine blw_alloc _ ?_) | (with_reducible refine Below.drew ?_) | (with_reducible exact Below.refl _ _) | (with_reducible refine blw_put _ (by omega) ?_) | (with_reducible refine blw_call ?_ (by assumption)))⟩
          case rest =>
            clear hbw hws la5 a5 la6 a6 la7 a7 la9 a9 la11 a11
            obtain ⟨c13, rfl, rfl, a5, a6, a7, a9, a11, a13, hbw⟩ := hcut
            have la5 := At.lt a5
            have la6 := At.lt a6
            have la7 := At.lt a7
            have la9 := At.lt a9
            have la11 := At.lt a11
            have la13 := At.lt a13
            have hws := hbw.size
            go_wp2_with fail
            go_ret
            exact ⟨rfl, by repeat (first | (with_reducible assumption) | (with_reducible refine blw_alloc _ ?_) | (with_reducible refine Below.drew ?_) | (with_reducible exact Below.refl _ _) | (with_reducible refine blw_put _ (by omega) ?_) | (with_reducible refine blw_call ?_ (by assumption)))⟩

set_option maxRecDepth 100000 in
set_option maxHeartbeats 3200000 in
theorem order_d (a b n1 n2 sk sn pk pn : Int) (po : Bool) (ha : Hid (numV a = (3, n1))) (hb : Hid (numV b = (3, n2))) (h1 : Num 3 n1) (h2 : Num 3 n2)
    (hs : Hid (addR 3 n1 3 n2 = (sk, sn, true))) (ht : Hid (addR 3 n2 3 n1 = (sk, sn, true))) (hp : Hid (mulR 3 n1 3 n2 = (pk, pn, po))) (hq : Hid (mulR 3 n2 3 n1 = (pk, pn, po))) (hsn : Num sk sn) (hd : Hid (subR sk sn 3 n2 = (3, n1, true))) (w : World) :
    Calls Tryd.prog 5 #[.int .i64 a, .int .i64 b] w fun e w' => e = .returned (.bool true) ∧ Below w.heap.size w w' := by
  go_enter Tryd.func5, Tryd.ntmps5
  go_upto_region 3 with (first | (go_at_call 9; ((with_reducible refine (fit_any _).mono ?_); rintro e w1 ⟨rfl, hbf⟩)))
  go_cut [5, 6] (fun s5 s6 wx => ∃ c5 c6 : Nat, s5 = .pointer (some ⟨c5, 0, none⟩) ∧ s6 = .pointer (some ⟨c6, 0, none⟩) ∧ At wx c5 3 n1 ∧ At wx c6 3 n2 ∧ Below w.heap.size w wx)
  case first =>
    go_wp2_with (first | (go_at_call 10; ((with_reducible refine (numOf_at _ _ _ ha _).mono ?_); rintro e w' ⟨rfl, rfl⟩)) | (go_at_call 10; ((with_reducible refine (numOf_at _ _ _ hb _).mono ?_); rintro e w' ⟨rfl, rfl⟩)))
    go_meet
    exact ⟨_, _, rfl, rfl, by repeat (first | (with_reducible assumption) | (with_reducible refine At.drew ?_) | (with_reducible refine At.put (k := 0) (n := 0) ?_) | (with_reducible refine At.far ?_ (by omega)) | (with_reducible refine At.new _ _ (by simp)) | (with_reducible refine At.alloc ?_ _) | (with_reducible refine At.later ?_ (by assumption))), by repeat (first | (with_reducible assumption) | (with_reducible refine At.drew ?_) | (with_reducible refine At.put (k := 0) (n := 0) ?_) | (with_reducible refine At.far ?_ (by omega)) | (with_reducible refine At.new _ _ (by simp)) | (with_reducible refine At.alloc ?_ _) | (with_reducible refine At.later ?_ (by assumption))), by repeat (first | (with_reducible assumption) | (with_reducible refine blw_alloc _ ?_) | (with_reducible refine Below.drew ?_) | (with_reducible exact Below.refl _ _) | (with_reducible refine blw_put _ (by omega) ?_) | (with_reducible refine blw_call ?_ (by assumption)))⟩
  case rest =>
    obtain ⟨c5, c6, rfl, rfl, a5, a6, hbw⟩ := hcut
    have la5 := At.lt a5
    have la6 := At.lt a6
    have hws := hbw.size
    go_upto_region 4 with (fail)
    go_cut [7, 8] (fun s7 s8 wx => ∃ c7 : Nat, s7 = .pointer (some ⟨c7, 0, none⟩) ∧ s8 = .bool true ∧ At wx c5 3 n1 ∧ At wx c6 3 n2 ∧ At wx c7 sk sn ∧ Below w.heap.size w wx)
    case first =>
      go_wp2_with (first | (go_at_call 12; ((with_reducible refine (add_at h1 h2 hs _).mono ?_); rintro e w2 ⟨rfl, hb2⟩)))
      go_meet
      exact ⟨_, rfl, rfl, by repeat (first | (with_reducible assumption) | (with_reducible refine At.drew ?_) | (with_reducible refine At.put (k := 0) (n := 0) ?_) | (with_reducible refine At.far ?_ (by omega)) | (with_reducible refine At.new _ _ (by simp)) | (with_reducible refine At.alloc ?_ _) | (with_reducible refine At.later ?_ (by assumption))), by repeat (first | (with_reducible assumption) | (with_reducible refine At.drew ?_) | (with_reducible refine At.put (k := 0) (n := 0) ?_) | (with_reducible refine At.far ?_ (by omega)) | (with_reducible refine At.new _ _ (by simp)) | (with_reducible refine At.alloc ?_ _) | (with_reducible refine At.later ?_ (by assumption))), by repeat (first | (with_reducible assumption) | (with_reducible refine At.drew ?_) | (with_reducible refine At.put (k := 0) (n := 0) ?_) | (with_reducible refine At.far ?_ (by omega)) | (with_reducible refine At.new _ _ (by simp)) | (with_reducible refine At.alloc ?_ _) | (with_reducible refine At.later ?_ (by assumption))), by repeat (first | (with_reducible assumption) | (with_reducible refine blw_alloc _ ?_) | (with_reducible refine Below.drew ?_) | (with_reducible exact Below.refl _ _) | (with_reducible refine blw_put _ (by omega) ?_) | (with_reducible refine blw_call ?_ (by assumption)))⟩
    case rest =>
      clear hbw hws la5 a5 la6 a6
      obtain ⟨c7, rfl, rfl, a5, a6, a7, hbw⟩ := hcut
      have la5 := At.lt a5
      have la6 := At.lt a6
      have la7 := At.lt a7
      have hws := hbw.size
      go_upto_region 5 with (fail)
      go_cut [9, 10] (fun s9 s10 wx => ∃ c9 : Nat, s9 = .pointer (some ⟨c9, 0, none⟩) ∧ s10 = .bool true ∧ At wx c5 3 n1 ∧ At wx c6 3 n2 ∧ At wx c7 sk sn ∧ At wx c9 sk sn ∧ Below w.heap.size w wx)
      case first =>
        go_wp2_with (first | (go_at_call 12; ((with_reducible refine (add_at h2 h1 ht _).mono ?_); rintro e w2 ⟨rfl, hb2⟩)))
        go_meet
        exact ⟨_, rfl, rfl, by repeat (first | (with_reducible assumption) | (with_reducible refine At.drew ?_) | (with_reducible refine At.put (k := 0) (n := 0) ?_) | (with_reducible refine At.far ?_ (by omega)) | (with_reducible refine At.new _ _ (by simp)) | (with_reducible refine At.alloc ?_ _) | (with_reducible refine At.later ?_ (by assumption))), by repeat (first | (with_reducible assumption) | (with_reducible refine At.drew ?_) | (with_reducible refine At.put (k := 0) (n := 0) ?_) | (with_reducible refine At.far ?_ (by omega)) | (with_reducible refine At.new _ _ (by simp)) | (with_reducible refine At.alloc ?_ _) | (with_reducible refine At.later ?_ (by assumption))), by repeat (first | (with_reducible assumption) | (with_reducible refine At.drew ?_) | (with_reducible refine At.put (k := 0) (n := 0) ?_) | (with_reducible refine At.far ?_ (by omega)) | (with_reducible refine At.new _ _ (by simp)) | (with_reducible refine At.alloc ?_ _) | (with_reducible refine At.later ?_ (by assumption))), by repeat (first | (with_reducible assumption) | (with_reducible refine At.drew ?_) | (with_reducible refine At.put (k := 0) (n := 0) ?_) | (with_reducible refine At.far ?_ (by omega)) | (with_reducible refine At.new _ _ (by simp)) | (with_reducible refine At.alloc ?_ _) | (with_reducible refine At.later ?_ (by assumption))), by repeat (first | (with_reducible assumption) | (with_reducible refine blw_alloc _ ?_) | (with_reducible refine Below.drew ?_) | (with_reducible exact Below.refl _ _) | (with_reducible refine blw_put _ (by omega) ?_) | (with_reducible refine blw_call ?_ (by assumption)))⟩
      case rest =>
        clear hbw hws la5 a5 la6 a6 la7 a7
        obtain ⟨c9, rfl, rfl, a5, a6, a7, a9, hbw⟩ := hcut
        have la5 := At.lt a5
        have la6 := At.lt a6
        have la7 := At.lt a7
        have la9 := At.lt a9
        have hws := hbw.size
        go_upto_region 6 with (fail)
        go_cut [11, 12] (fun s11 s12 wx => ∃ c11 : Nat, s11 = .pointer (some ⟨c11, 0, none⟩) ∧ s12 = .bool po ∧ At wx c5 3 n1 ∧ At wx c6 3 n2 ∧ At wx c7 sk sn ∧ At wx c9 sk sn ∧ At wx c11 pk pn ∧ Below w.heap.size w wx)
        case first =>
          go_wp2_with (first | (go_at_call 14; ((with_reducible refine (mul_at h1 h2 hp _).mono ?_); rintro e w2 ⟨rfl, hb2⟩)))
          go_meet
          exact ⟨_, rfl, rfl, by repeat (first | (with_reducible assumption) | (with_reducible refine At.drew ?_) | (with_reducible refine At.put (k := 0) (n := 0) ?_) | (with_reducible refine At.far ?_ (by omega)) | (with_reducible refine At.new _ _ (by simp)) | (with_reducible refine At.alloc ?_ _) | (with_reducible refine At.later ?_ (by assumption))), by repeat (first | (with_reducible assumption) | (with_reducible refine At.drew ?_) | (with_reducible refine At.put (k := 0) (n := 0) ?_) | (with_reducible refine At.far ?_ (by omega)) | (with_reducible refine At.new _ _ (by simp)) | (with_reducible refine At.alloc ?_ _) | (with_reducible refine At.later ?_ (by assumption))), by repeat (first | (with_reducible assumption) | (with_reducible refine At.drew ?_) | (with_reducible refine At.put (k := 0) (n := 0) ?_) | (with_reducible refine At.far ?_ (by omega)) | (with_reducible refine At.new _ _ (by simp)) | (with_reducible refine At.alloc ?_ _) | (with_reducible refine At.later ?_ (by assumption))), by repeat (first | (with_reducible assumption) | (with_reducible refine At.drew ?_) | (with_reducible refine At.put (k := 0) (n := 0) ?_) | (with_reducible refine At.far ?_ (by omega)) | (with_reducible refine At.new _ _ (by simp)) | (with_reducible refine At.alloc ?_ _) | (with_reducible refine At.later ?_ (by assumption))), by repeat (first | (with_reducible assumption) | (with_reducible refine At.drew ?_) | (with_reducible refine At.put (k := 0) (n := 0) ?_) | (with_reducible refine At.far ?_ (by omega)) | (with_reducible refine At.new _ _ (by simp)) | (with_reducible refine At.alloc ?_ _) | (with_reducible refine At.later ?_ (by assumption))), by repeat (first | (with_reducible assumption) | (with_reducible refine blw_alloc _ ?_) | (with_reducible refine Below.drew ?_) | (with_reducible exact Below.refl _ _) | (with_reducible refine blw_put _ (by omega) ?_) | (with_reducible refine blw_call ?_ (by assumption)))⟩
        case rest =>
          clear hbw hws la5 a5 la6 a6 la7 a7 la9 a9
          obtain ⟨c11, rfl, rfl, a5, a6, a7, a9, a11, hbw⟩ := hcut
          have la5 := At.lt a5
          have la6 := At.lt a6
          have la7 := At.lt a7
          have la9 := At.lt a9
          have la11 := At.lt a11
          have hws := hbw.size
          go_upto_region 7 with (fail)
          go_cut [13, 14] (fun s13 s14 wx => ∃ c13 : Nat, s13 = .pointer (some ⟨c13, 0, none⟩) ∧ s14 = .bool po ∧ At wx c5 3 n1 ∧ At wx c6 3 n2 ∧ At wx c7 sk sn ∧ At wx c9 sk sn ∧ At wx c11 pk pn ∧ At wx c13 pk pn ∧ Below w.heap.size w wx)
          case first =>
            go_wp2_with (first | (go_at_call 14; ((with_reducible refine (mul_at h2 h1 hq _).mono ?_); rintro e w2 ⟨rfl, hb2⟩)))
            go_meet
            exact ⟨_, rfl, rfl, by repeat (first | (with_reducible assumption) | (with_reducible refine At.drew ?_) | (with_reducible refine At.put (k := 0) (n := 0) ?_) | (with_reducible refine At.far ?_ (by omega)) | (with_reducible refine At.new _ _ (by simp)) | (with_reducible refine At.alloc ?_ _) | (with_reducible refine At.later ?_ (by assumption))), by repeat (first | (with_reducible assumption) | (with_reducible refine At.drew ?_) | (with_reducible refine At.put (k := 0) (n := 0) ?_) | (with_reducible refine At.far ?_ (by omega)) | (with_reducible refine At.new _ _ (by simp)) | (with_reducible refine At.alloc ?_ _) | (with_reducible refine At.later ?_ (by assumption))), by repeat (first | (with_reducible assumption) | (with_reducible refine At.drew ?_) | (with_reducible refine At.put (k := 0) (n := 0) ?_) | (with_reducible refine At.far ?_ (by omega)) | (with_reducible refine At.new _ _ (by simp)) | (with_reducible refine At.alloc ?_ _) | (with_reducible refine At.later ?_ (by assumption))), by repeat (first | (with_reducible assumption) | (with_reducible refine At.drew ?_) | (with_reducible refine At.put (k := 0) (n := 0) ?_) | (with_reducible refine At.far ?_ (by omega)) | (with_reducible refine At.new _ _ (by simp)) | (with_reducible refine At.alloc ?_ _) | (with_reducible refine At.later ?_ (by assumption))), by repeat (first | (with_reducible assumption) | (with_reducible refine At.drew ?_) | (with_reducible refine At.put (k := 0) (n := 0) ?_) | (with_reducible refine At.far ?_ (by omega)) | (with_reducible refine At.new _ _ (by simp)) | (with_reducible refine At.alloc ?_ _) | (with_reducible refine At.later ?_ (by assumption))), by repeat (first | (with_reducible assumption) | (with_reducible refine At.drew ?_) | (with_reducible refine At.put (k := 0) (n := 0) ?_) | (with_reducible refine At.far ?_ (by omega)) | (with_reducible refine At.new _ _ (by simp)) | (with_reducible refine At.alloc ?_ _) | (with_reducible refine At.later ?_ (by assumption))), by repeat (first | (with_reducible assumption) | (with_reducible refine blw_alloc _ ?_) | (with_reducible refine Below.drew ?_) | (with_reducible exact Below.refl _ _) | (with_reducible refine blw_put _ (by omega) ?_) | (with_reducible refine blw_call ?_ (by assumption)))⟩
          case rest =>
            clear hbw hws la5 a5 la6 a6 la7 a7 la9 a9 la11 a11
            obtain ⟨c13, rfl, rfl, a5, a6, a7, a9, a11, a13, hbw⟩ := hcut
            have la5 := At.lt a5
            have la6 := At.lt a6
            have la7 := At.lt a7
            have la9 := At.lt a9
            have la11 := At.lt a11
            have la13 := At.lt a13
            have hws := hbw.size
            go_wp2_with (first | (go_at_call 13; ((with_reducible refine (sub_at hsn h2 hd _).mono ?_); rintro e w2 ⟨rfl, hb2⟩; have a5 : At w2 c5 3 n1 := (by repeat (first | (with_reducible assumption) | (with_reducible refine At.drew ?_) | (with_reducible refine At.put (k := 0) (n := 0) ?_) | (with_reducible refine At.far ?_ (by omega)) | (with_reducible refine At.new _ _ (by simp)) | (with_reducible refine At.alloc ?_ _) | (with_reducible refine At.later ?_ (by assumption)))); have l5 := At.lt a5)))
            go_ret
            exact ⟨rfl, by repeat (first | (with_reducible assumption) | (with_reducible refine blw_alloc _ ?_) | (with_reducible refine Below.drew ?_) | (with_reducible exact Below.refl _ _) | (with_reducible refine blw_put _ (by omega) ?_) | (with_reducible refine blw_call ?_ (by assumption)))⟩

theorem order_all (a b : Int) (_ : (Lit.int .i64 a).wf = true) (_ : (Lit.int .i64 b).wf = true) (w : World) (_ : laidMetH Tryd.prog tabs w) :
    Calls Tryd.prog 5 #[.int .i64 a, .int .i64 b] w fun e w' => e = .returned (.bool true) ∧ Below w.heap.size w w' := by
  have h1 := numV_num a
  have h2 := numV_num b
  have ct := add_comm h1 h2
  have cq := mul_comm h1 h2
  obtain ⟨k1, n1, e1⟩ : ∃ k n, numV a = (k, n) := ⟨_, _, rfl⟩
  obtain ⟨k2, n2, e2⟩ : ∃ k n, numV b = (k, n) := ⟨_, _, rfl⟩
  rw [e1] at h1 ct cq
  rw [e2] at h2 ct cq
  obtain ⟨sk, sn, so, es⟩ : ∃ k n o, addR k1 n1 k2 n2 = (k, n, o) := ⟨_, _, _, rfl⟩
  obtain ⟨pk, pn, po, ep⟩ : ∃ k n o, mulR k1 n1 k2 n2 = (k, n, o) := ⟨_, _, _, rfl⟩
  simp only at ct cq
  rw [es] at ct
  rw [ep] at cq
  by_cases k3 : k1 = 3
  · by_cases k3' : k2 = 3
    · subst k3 k3'
      cases so
      · exact order_c a b n1 n2 sk sn pk pn po e1 e2 h1 h2 es ct ep cq w
      · have b1 : -9007199254740991 ≤ n1 ∧ n1 ≤ 9007199254740991 := by unfold Num at h1; omega
        have b2 : -9007199254740991 ≤ n2 ∧ n2 ≤ 9007199254740991 := by unfold Num at h2; omega
        have es' := es
        unfold addR at es'
        rw [if_neg (by omega), if_neg (by omega), if_neg (by omega)] at es'
        by_cases hc : -9007199254740991 ≤ n1 + n2 ∧ n1 + n2 ≤ 9007199254740991
        · rw [if_pos hc] at es'
          simp only [Prod.mk.injEq, and_true] at es'
          obtain ⟨rfl, rfl⟩ := es'
          have hd : subR 3 (n1 + n2) 3 n2 = (3, n1, true) := by
            unfold subR addR
            by_cases h0 : n2 = 0
            · subst h0
              have ek : negK 3 0 = 6 := rfl
              have en : negN 3 0 = 0 := rfl
              rw [ek, en, if_neg (by omega), if_pos (Or.inr rfl), Int.add_zero]
            · have ek : negK 3 n2 = 3 := by simp [negK, h0]
              have en : negN 3 n2 = -n2 := by simp [negN]
              have es : n1 + n2 + -n2 = n1 := by omega
              rw [ek, en, es, if_neg (by omega), if_neg (by omega), if_neg (by omega), if_pos b1]
          exact order_d a b n1 n2 3 (n1 + n2) pk pn po e1 e2 h1 h2 es ct ep cq (by unfold Num; omega) hd w
        · rw [if_neg hc] at es'
          simp at es'
    · subst k3
      exact order_b a b n1 k2 n2 sk sn pk pn so po e1 e2 h1 h2 es ct ep cq (by simpa using k3') w
  · exact order_a a b k1 n1 k2 n2 sk sn pk pn so po e1 e2 h1 h2 es ct ep cq (by simpa using k3) w

section
set_option maxRecDepth 100000 in
theorem numOrder_lifted (os : Os) (started : os.Started) (H : Type) (enc : TypeId × Value → H) :
    ReturnsInHanded {} Tryd.checked os 5 .any (fun w args => (Rows.numOrderSpec.pre enc Tryd.prog Tryd.f5 [] false w args ∧ laidMetH Tryd.prog tabs w) ∧ sizedMet enc Tryd.prog Tryd.f5 (OpenSpec.ofChange Rows.numOrderSpec) false w args)
      (Rows.numOrderSpec.post enc Tryd.prog Tryd.f5 false true false false) := by
  refine returnsInHanded_of_change_and (C := Tryd.checked) (X := fun w _ => laidMetH Tryd.prog tabs w) (fun _ _ _ hh h => h.of_heap hh) own started (by kernel_rfl) Tryd.func5
    (ChangeSpec.witness_shaped (enc := enc) (C := Tryd.checked) (os := os) (X := fun w _ => laidMetH Tryd.prog tabs w) false (World.doorLaid Tryd.prog 400 os) #[.int .i64 0, .int .i64 0] 8 rfl (World.shaped_of_RefB (by kernel_rfl) (by kernel_rfl)) (by kernel_rfl) (by kernel_rfl) (by kernel_rfl) (door_met os _)) ?_
  intro W base args ds gs before hval0 hW _ _ hL _
  have hval : ∀ (j : Nat) t v, Tryd.f5.params[j]? = some t → args[j]? = some v → Value.okWide Tryd.prog W .any base t v := hval0
  have hW' := hW
  obtain ⟨p, q, hA0, hV, rfl, hfz, hnd⟩ := hW
  have hA : DataW.TrodAll enc Tryd.prog W 0 (fun _ => true) true Tryd.f5.params.toList args.toList ds p := hA0
  rw [Tryd.params5] at hA hval
  obtain ⟨v0, vs0, d0, ds0, p0, q0, hargs, rfl, rfl, h0, r0⟩ := trodAll_cons hA
  obtain ⟨v1, vs1, d1, ds1, p1, q1, rfl, rfl, rfl, h1, r1⟩ := trodAll_cons r0
  obtain ⟨rfl, rfl, rfl⟩ := trodAll_nil r1
  obtain rfl : args = #[v0, v1] := by cases args; simp_all
  obtain ⟨rfl, rfl⟩ := trodVars_none hV
  obtain ⟨a0, rfl, rfl, rfl, w0⟩ := open_int Tryd.underlying2 (hval 0 2 v0 rfl rfl) h0
  obtain ⟨a1, rfl, rfl, rfl, w1⟩ := open_int Tryd.underlying2 (hval 1 2 v1 rfl rfl) h1
  clear hA0 hval0
  simp only [List.append_nil] at hW'
  refine (order_all a0 a1 w0 w1 W hL).mono fun e W' ⟨he, hg⟩ => ?_
  subst he
  exact ⟨_, rfl, law_post hW' hg rfl rfl rfl (trodAll_cons_mk (shut_int Tryd.underlying2 w0) (trodAll_cons_mk (shut_int Tryd.underlying2 w1) trodAll_mk0))⟩

theorem numOrder_said : Rows.NumOrderSaid :=
  OpenClaim.holds_of_wide 5 Tryd.f5 rfl rfl rfl rfl rfl rfl rfl ⟨rfl, rfl, rfl, rfl, rfl⟩ rfl rfl rfl rfl rfl (by kernel_rfl) Tryd.func5 (by kernel_rfl)
    (of_decide_eq_true (by kernel_rfl)) (by unfold Func.isWrapper; first | (rw [if_pos (by decide +kernel)]; kernel_rfl) | (rw [if_neg (by decide +kernel)]; exact ⟨rfl, rfl⟩))
    (fun os started H enc _ => numOrder_lifted os started H enc)

/-- The tied card: for every input NumOrder returns true. -/
theorem numOrder_holds : Rows.NumOrderCardSaid :=
  Claim7.holds_tied_plain_at .later [] [.data, .data, .data] true (true, "4f3b660b2015560120ddffd10400e03a48c63fafadd340cf872e1ac63a8be49c") false
    numOrder_said (fun _ h => by cases h) (by kernel_rfl) (fun _ h => by cases h) numOrder_row_tie rfl ⟨rfl, rfl⟩ (by kernel_rfl) rfl
    (fun f fn hf hfn => by
      obtain rfl : f = 5 := Option.some.inj ((show Tryd.prog.funcNamed "ossuary/ossuarylaw01.NumOrder" = some 5 by kernel_rfl).symm.trans hf) |>.symm
      obtain rfl : fn = Tryd.f5 := (Option.some.inj (Tryd.func5.symm.trans hfn)).symm
      exact ⟨by kernel_rfl, fun j t ht => by
        rw [Tryd.params5] at ht
        have hm : t ∈ [2] := by
          have := Array.mem_of_getElem? ht
          simp at this
          simp [this]
        have hall : ([2].all fun u => !Tryd.prog.wantsStandIn u) = true := by kernel_rfl
        exact (show Tryd.prog.wantsStandIn t = false by simpa using List.all_eq_true.1 hall t hm)⟩)
    (by kernel_rfl)
#print axioms numOrder_holds
end
end Go.Proofs.YtgeaecljfmbleaaDoor
