/- NumSigns holds: for all inputs a and b it returns true; no condition beyond the row's own (the listed tables lie as the program's text lays them). -/
import Derived.Test.YtgeaecljfmbleaaDoorNg
import Derived.Test.YtgeaecljfmbleaaDoorNy
import Derived.Test.YtgeaecljfmbleaaDoorTie
import Derived.Test.YtgeaecljfmbleaaDoorCards
import Derived.SevenTiedAt
import Derived.Deep.RegionHeld3
namespace Go.Proofs.YtgeaecljfmbleaaDoor
open Go.ChangeShapes Go.WideShapes Go.ChangeAt Go.WideMaps Go.WideElems Go.RowKit

theorem mg_neg (n : Int) : mg (-n) = mg n := by unfold mg; rw [Int.natAbs_neg]
theorem num_int3 (n : Int) (h1 : -9007199254740991 ≤ n) (h2 : n ≤ 9007199254740991) : Num 3 n := .inr (.inr (.inr (.inr ⟨rfl, h1, h2⟩)))
/-- What an operator answers for x and for the opposite of x (of y). -/
def Opp (r s : Int × Int × Bool) : Prop := (∃ pk pn, Num pk pn ∧ r = (pk, pn, true) ∧ s = (negK pk pn, negN pk pn, true)) ∨ (r = (0, 0, false) ∧ s = (0, 0, false))
theorem opp_nan : Opp (4, 0, true) (4, 0, true) := .inl ⟨4, 0, .inl ⟨rfl, rfl⟩, rfl, rfl⟩
theorem opp_inf (m : Bool) : Opp (5, (if m then -1 else 1), true) (5, (if !m then -1 else 1), true) := by
  cases m
  · exact .inl ⟨5, 1, .inr (.inl ⟨rfl, rfl⟩), rfl, rfl⟩
  · exact .inl ⟨5, -1, .inr (.inr (.inl ⟨rfl, rfl⟩)), rfl, rfl⟩
theorem opp_zero (m : Bool) : Opp ((if m then 6 else 3), 0, true) ((if !m then 6 else 3), 0, true) := by
  cases m
  · exact .inl ⟨3, 0, num_int3 0 (by omega) (by omega), rfl, rfl⟩
  · exact .inl ⟨6, 0, .inr (.inr (.inr (.inl ⟨rfl, rfl⟩))), rfl, rfl⟩
theorem opp_int (n : Int) (h0 : n ≠ 0) (h1 : -9007199254740991 ≤ n) (h2 : n ≤ 9007199254740991) : Opp (3, n, true) (3, -n, true) :=
  .inl ⟨3, n, num_int3 n h1 h2, rfl, by simp [negK, negN, h0]⟩
theorem opp_none : Opp (0, 0, false) (0, 0, false) := .inr ⟨rfl, rfl⟩

theorem zer_neg (k n : Int) (h : Num k n) : zerB (negK k n) (negN k n) = zerB k n := by
  rcases h with ⟨rfl, rfl⟩ | ⟨rfl, rfl⟩ | ⟨rfl, rfl⟩ | ⟨rfl, rfl⟩ | ⟨rfl, h1, h2⟩
  · rfl
  · rfl
  · rfl
  · rfl
  · by_cases h0 : n = 0
    · subst h0; rfl
    · have e1 : (-n == 0) = false := by simp; omega
      have e2 : (n == 0) = false := by simpa using h0
      simp [zerB, negK, negN, h0, e1, e2]
theorem four_neg (k n : Int) : negK k n = 4 ↔ k = 4 := by unfold negK; repeat' split; all_goals omega
theorem five_neg (k n : Int) : negK k n = 5 ↔ k = 5 := by unfold negK; repeat' split; all_goals omega
theorem negb_neg (k n : Int) (h : Num k n) (h4 : k ≠ 4) : negB (negK k n) (negN k n) = !negB k n := by
  rcases h with ⟨rfl, rfl⟩ | ⟨rfl, rfl⟩ | ⟨rfl, rfl⟩ | ⟨rfl, rfl⟩ | ⟨rfl, h1, h2⟩
  · exact absurd rfl h4
  · rfl
  · rfl
  · rfl
  · by_cases h0 : n = 0
    · subst h0; rfl
    · have e1 : decide (-n < 0) = !decide (n < 0) := by
        by_cases hn : n < 0
        · rw [decide_eq_true hn, decide_eq_false (by omega)]; rfl
        · rw [decide_eq_false hn, decide_eq_true (by omega)]; rfl
      simp only [negB, negK, negN, if_true, if_neg h0, e1]
      rfl

theorem mul_sign {k1 n1 k2 n2 : Int} (h1 : Num k1 n1) (h2 : Num k2 n2) : Opp (mulR k1 n1 k2 n2) (mulR (negK k1 n1) (negN k1 n1) k2 n2) := by
  unfold mulR
  simp only [four_neg, five_neg, zer_neg k1 n1 h1]
  split
  · exact opp_nan
  · rename_i hN
    have h14 : k1 ≠ 4 := fun h => hN (.inl h)
    have h24 : k2 ≠ 4 := fun h => hN (.inr (.inl h))
    have e : (negB (negK k1 n1) (negN k1 n1) != negB k2 n2) = !(negB k1 n1 != negB k2 n2) := by
      rw [negb_neg k1 n1 h1 h14]; cases negB k1 n1 <;> cases negB k2 n2 <;> rfl
    rw [e]
    split
    · exact opp_inf _
    · rename_i hI
      have h15 : k1 ≠ 5 := fun h => hI (.inl h)
      have h25 : k2 ≠ 5 := fun h => hI (.inr h)
      split
      · exact opp_zero _
      · rename_i hZ
        have z1 : zerB k1 n1 = false := by cases h : zerB k1 n1 <;> simp_all
        have z2 : zerB k2 n2 = false := by cases h : zerB k2 n2 <;> simp_all
        obtain ⟨rfl, x0, x1, x2⟩ := num_int k1 n1 h1 h14 h15 z1
        obtain ⟨rfl, y0, y1, y2⟩ := num_int k2 n2 h2 h24 h25 z2
        have en : negN 3 n1 = -n1 := by simp [negN]
        rw [en, mg_neg]
        split
        · rename_i hc
          have hb := prod_bound n1 n2 y0 hc
          have e2 : -n1 * n2 = -(n1 * n2) := Int.neg_mul n1 n2
          rw [e2]
          exact opp_int _ (Int.mul_ne_zero x0 y0) hb.1 hb.2
        · exact opp_none
theorem div_sign {k1 n1 k2 n2 : Int} (h1 : Num k1 n1) (h2 : Num k2 n2) : Opp (divR k1 n1 k2 n2) (divR k1 n1 (negK k2 n2) (negN k2 n2)) := by
  unfold divR
  simp only [four_neg, five_neg, zer_neg k2 n2 h2]
  split
  · exact opp_nan
  · rename_i hN
    have h14 : k1 ≠ 4 := fun h => hN (.inl h)
    have h24 : k2 ≠ 4 := fun h => hN (.inr (.inl h))
    have e : (negB k1 n1 != negB (negK k2 n2) (negN k2 n2)) = !(negB k1 n1 != negB k2 n2) := by
      rw [negb_neg k2 n2 h2 h24]; cases negB k1 n1 <;> cases negB k2 n2 <;> rfl
    rw [e]
    split
    · exact opp_inf _
    · rename_i hI
      split
      · exact opp_zero _
      · rename_i hZ
        have h15 : k1 ≠ 5 := fun h => hI (.inl h)
        have h25 : k2 ≠ 5 := fun h => hZ (.inl h)
        have z1 : zerB k1 n1 = false := by cases h : zerB k1 n1 <;> simp_all
        have z2 : zerB k2 n2 = false := by cases h : zerB k2 n2 <;> simp_all
        obtain ⟨rfl, x0, x1, x2⟩ := num_int k1 n1 h1 h14 h15 z1
        obtain ⟨rfl, y0, y1, y2⟩ := num_int k2 n2 h2 h24 h25 z2
        have en : negN 3 n2 = -n2 := by simp [negN]
        rw [en, Int.tmod_neg, Int.tdiv_neg]
        split
        · rename_i hc
          have hb := tdiv_bound n1 n2 x1 x2
          refine opp_int _ (fun h0 => x0 ?_) hb.1 hb.2
          have := Int.tmod_add_mul_tdiv n1 n2
          rw [hc, h0] at this
          simpa using this.symm
        · exact opp_none
set_option maxHeartbeats 1600000 in
theorem signs_tt (a b k1 n1 k2 n2 pk pn qk qn dk dn ek en : Int) (ha : Hid (numV a = (k1, n1))) (hb : Hid (numV b = (k2, n2))) (h1 : Num k1 n1) (h2 : Num k2 n2)
    (hn1 : Num (negK k1 n1) (negN k1 n1)) (hn2 : Num (negK k2 n2) (negN k2 n2)) (hm : Hid (mulR k1 n1 k2 n2 = (pk, pn, true))) (hm2 : Hid (mulR (negK k1 n1) (negN k1 n1) k2 n2 = (qk, qn, true)))
    (hd : Hid (divR k1 n1 k2 n2 = (dk, dn, true))) (hd2 : Hid (divR k1 n1 (negK k2 n2) (negN k2 n2) = (ek, en, true))) (hp : Num pk pn) (hpq : Hid (negK pk pn = qk ∧ negN pk pn = qn)) (hdd : Num dk dn) (hde : Hid (negK dk dn = ek ∧ negN dk dn = en)) (w : World) :
    Calls Tryd.prog 8 #[.int .i64 a, .int .i64 b] w fun e w' => e = .returned (.bool true) ∧ Below w.heap.size w w' := by
  go_enter Tryd.func8, Tryd.ntmps8
  go_upto_region 3 with (first | (go_at_call 9; ((with_reducible refine (fit_any _).mono ?_); rintro e w1 ⟨rfl, hbf⟩)))
  go_cut [5, 6] (fun s5 s6 wx => ∃ c5 c6 : Nat, s5 = .pointer (some ⟨c5, 0, none⟩) ∧ s6 = .pointer (some ⟨c6, 0, none⟩) ∧ At wx c5 k1 n1 ∧ At wx c6 k2 n2 ∧ Below w.heap.size w wx)
  case first =>
    go_wp2_with (first | (go_at_call 10; ((with_reducible refine (numOf_at _ _ _ ha _).mono ?_); rintro e w' ⟨rfl, rfl⟩)) | (go_at_call 10; ((with_reducible refine (numOf_at _ _ _ hb _).mono ?_); rintro e w' ⟨rfl, rfl⟩)))
    go_meet
    exact ⟨_, _, rfl, rfl, by repeat (first | (with_reducible assumption) | (with_reducible refine At.drew ?_) | (with_reducible refine At.put (k := 0) (n := 0) ?_) | (with_reducible refine At.far ?_ (by omega)) | (with_reducible refine At.new _ _ (by simp)) | (with_reducible refine At.alloc ?_ _) | (with_reducible refine At.later ?_ (by assumption))), by repeat (first | (with_reducible assumption) | (with_reducible refine At.drew ?_) | (with_reducible refine At.put (k := 0) (n := 0) ?_) | (with_reducible refine At.far ?_ (by omega)) | (with_reducible refine At.new _ _ (by simp)) | (with_reducible refine At.alloc ?_ _) | (with_reducible refine At.later ?_ (by assumption))), by repeat (first | (with_reducible assumption) | (with_reducible refine blw_alloc _ ?_) | (with_reducible refine Below.drew ?_) | (with_reducible exact Below.refl _ _) | (with_reducible refine blw_put _ (by omega) ?_) | (with_reducible refine blw_call ?_ (by assumption)))⟩
  case rest =>
    obtain ⟨c5, c6, rfl, rfl, hx, hy, hbw⟩ := hcut
    have lhx := At.lt hx
    have lhy := At.lt hy
    have hws := hbw.size
    go_upto_region 4 with (fail)
    go_cut [7, 8] (fun s7 s8 wx => ∃ c7 : Nat, s7 = .pointer (some ⟨c7, 0, none⟩) ∧ s8 = .bool true ∧ At wx c5 k1 n1 ∧ At wx c6 k2 n2 ∧ At wx c7 pk pn ∧ Below w.heap.size w wx)
    case first =>
      go_wp2_with (first | (go_at_call 14; ((with_reducible refine (mul_at h1 h2 hm _).mono ?_); rintro e w2 ⟨rfl, hb2⟩)))
      go_meet
      exact ⟨_, rfl, rfl, by repeat (first | (with_reducible assumption) | (with_reducible refine At.drew ?_) | (with_reducible refine At.put (k := 0) (n := 0) ?_) | (with_reducible refine At.far ?_ (by omega)) | (with_reducible refine At.new _ _ (by simp)) | (with_reducible refine At.alloc ?_ _) | (with_reducible refine At.later ?_ (by assumption))), by repeat (first | (with_reducible assumption) | (with_reducible refine At.drew ?_) | (with_reducible refine At.put (k := 0) (n := 0) ?_) | (with_reducible refine At.far ?_ (by omega)) | (with_reducible refine At.new _ _ (by simp)) | (with_reducible refine At.alloc ?_ _) | (with_reducible refine At.later ?_ (by assumption))), by repeat (first | (with_reducible assumption) | (with_reducible refine At.drew ?_) | (with_reducible refine At.put (k := 0) (n := 0) ?_) | (with_reducible refine At.far ?_ (by omega)) | (with_reducible refine At.new _ _ (by simp)) | (with_reducible refine At.alloc ?_ _) | (with_reducible refine At.later ?_ (by assumption))), by repeat (first | (with_reducible assumption) | (with_reducible refine blw_alloc _ ?_) | (with_reducible refine Below.drew ?_) | (with_reducible exact Below.refl _ _) | (with_reducible refine blw_put _ (by omega) ?_) | (with_reducible refine blw_call ?_ (by assumption)))⟩
    case rest =>
      clear hbw hws lhx lhy hx hy
      obtain ⟨c7, rfl, rfl, hx, hy, hz, hbw⟩ := hcut
      have lhx := At.lt hx
      have lhy := At.lt hy
      have lhz := At.lt hz
      have hws := hbw.size
      go_upto_region 5 with (fail)
      go_cut [9, 10] (fun s9 s10 wy => ∃ c9 : Nat, s9 = .pointer (some ⟨c9, 0, none⟩) ∧ s10 = .bool true ∧ At wy c5 k1 n1 ∧ At wy c6 k2 n2 ∧ At wy c7 pk pn ∧ At wy c9 qk qn ∧ Below w.heap.size w wy)
      case first =>
        go_region_held3 (fun w' => At w' c5 k1 n1 ∧ At w' c6 k2 n2) ((refine ⟨?_, ?_⟩ <;> (repeat (first | (with_reducible assumption) | (with_reducible refine At.drew ?_) | (with_reducible refine At.put (k := 0) (n := 0) ?_) | (with_reducible refine At.far ?_ (by omega)) | (with_reducible refine At.new _ _ (by simp)) | (with_reducible refine At.alloc ?_ _) | (with_reducible refine At.later ?_ (by assumption))))))
          (first | (go_at_call 26; ((with_reducible refine (neg_any _ _ h1 _).mono ?_); rintro e w2 ⟨rfl, hb2⟩; have s2 := hb2.size; (try simp at s2); (first | (with_reducible have hbx := (At.new (W := wc) 0 0 rfl).drew.later hb2) | skip); have hxk : At w2 c5 k1 n1 := (by repeat (first | (with_reducible assumption) | (with_reducible refine At.drew ?_) | (with_reducible refine At.put (k := 0) (n := 0) ?_) | (with_reducible refine At.far ?_ (by omega)) | (with_reducible refine At.new _ _ (by simp)) | (with_reducible refine At.alloc ?_ _) | (with_reducible refine At.later ?_ (by assumption)))); have hyk : At w2 c6 k2 n2 := (by repeat (first | (with_reducible assumption) | (with_reducible refine At.drew ?_) | (with_reducible refine At.put (k := 0) (n := 0) ?_) | (with_reducible refine At.far ?_ (by omega)) | (with_reducible refine At.new _ _ (by simp)) | (with_reducible refine At.alloc ?_ _) | (with_reducible refine At.later ?_ (by assumption)))))) | (go_at_call 14; ((with_reducible refine (mul_at hn1 h2 hm2 _).mono ?_); rintro e w3 ⟨rfl, hb3⟩; have s3 := hb3.size; (try simp at s3); (first | (with_reducible have hbx := hbx.later hb3) | (with_reducible have hbx := (At.new (W := w2) 0 0 rfl).later hb3) | skip); have hxk : At w3 c5 k1 n1 := (by repeat (first | (with_reducible assumption) | (with_reducible refine At.drew ?_) | (with_reducible refine At.put (k := 0) (n := 0) ?_) | (with_reducible refine At.far ?_ (by omega)) | (with_reducible refine At.new _ _ (by simp)) | (with_reducible refine At.alloc ?_ _) | (with_reducible refine At.later ?_ (by assumption)))); have hyk : At w3 c6 k2 n2 := (by repeat (first | (with_reducible assumption) | (with_reducible refine At.drew ?_) | (with_reducible refine At.put (k := 0) (n := 0) ?_) | (with_reducible refine At.far ?_ (by omega)) | (with_reducible refine At.new _ _ (by simp)) | (with_reducible refine At.alloc ?_ _) | (with_reducible refine At.later ?_ (by assumption)))))))
        all_goals go_wp2_with fail
        all_goals go_meet
        all_goals exact ⟨_, rfl, rfl, by repeat (first | (with_reducible assumption) | (with_reducible refine At.drew ?_) | (with_reducible refine At.put (k := 0) (n := 0) ?_) | (with_reducible refine At.far ?_ (by omega)) | (with_reducible refine At.new _ _ (by simp)) | (with_reducible refine At.alloc ?_ _) | (with_reducible refine At.later ?_ (by assumption))), by repeat (first | (with_reducible assumption) | (with_reducible refine At.drew ?_) | (with_reducible refine At.put (k := 0) (n := 0) ?_) | (with_reducible refine At.far ?_ (by omega)) | (with_reducible refine At.new _ _ (by simp)) | (with_reducible refine At.alloc ?_ _) | (with_reducible refine At.later ?_ (by assumption))), by repeat (first | (with_reducible assumption) | (with_reducible refine At.drew ?_) | (with_reducible refine At.put (k := 0) (n := 0) ?_) | (with_reducible refine At.far ?_ (by omega)) | (with_reducible refine At.new _ _ (by simp)) | (with_reducible refine At.alloc ?_ _) | (with_reducible refine At.later ?_ (by assumption))), by repeat (first | (with_reducible assumption) | (with_reducible refine At.drew ?_) | (with_reducible refine At.put (k := 0) (n := 0) ?_) | (with_reducible refine At.far ?_ (by omega)) | (with_reducible refine At.new _ _ (by simp)) | (with_reducible refine At.alloc ?_ _) | (with_reducible refine At.later ?_ (by assumption))), by repeat (first | (with_reducible assumption) | (with_reducible refine blw_alloc _ ?_) | (with_reducible refine Below.drew ?_) | (with_reducible exact Below.refl _ _) | (with_reducible refine blw_put _ (by omega) ?_) | (with_reducible refine blw_call ?_ (by assumption)))⟩
      case rest =>
        clear hbw hws lhx lhy lhz hx hy hz
        obtain ⟨c9, rfl, rfl, hx, hy, hz, hq, hbw⟩ := hcut
        have lhx := At.lt hx
        have lhy := At.lt hy
        have lhz := At.lt hz
        have lhq := At.lt hq
        have hws := hbw.size
        go_upto_region 6 with (fail)
        go_cut [11, 12] (fun s11 s12 wy => ∃ c11 : Nat, s11 = .pointer (some ⟨c11, 0, none⟩) ∧ s12 = .bool true ∧ At wy c5 k1 n1 ∧ At wy c6 k2 n2 ∧ At wy c7 pk pn ∧ At wy c9 qk qn ∧ At wy c11 dk dn ∧ Below w.heap.size w wy)
        case first =>
          go_wp2_with (first | (go_at_call 15; ((with_reducible refine (div_at h1 h2 hd _).mono ?_); rintro e w2 ⟨rfl, hb2⟩)))
          go_meet
          exact ⟨_, rfl, rfl, by repeat (first | (with_reducible assumption) | (with_reducible refine At.drew ?_) | (with_reducible refine At.put (k := 0) (n := 0) ?_) | (with_reducible refine At.far ?_ (by omega)) | (with_reducible refine At.new _ _ (by simp)) | (with_reducible refine At.alloc ?_ _) | (with_reducible refine At.later ?_ (by assumption))), by repeat (first | (with_reducible assumption) | (with_reducible refine At.drew ?_) | (with_reducible refine At.put (k := 0) (n := 0) ?_) | (with_reducible refine At.far ?_ (by omega)) | (with_reducible refine At.new _ _ (by simp)) | (with_reducible refine At.alloc ?_ _) | (with_reducible refine At.later ?_ (by assumption))), by repeat (first | (with_reducible assumption) | (with_reducible refine At.drew ?_) | (with_reducible refine At.put (k := 0) (n := 0) ?_) | (with_reducible refine At.far ?_ (by omega)) | (with_reducible refine At.new _ _ (by simp)) | (with_reducible refine At.alloc ?_ _) | (with_reducible refine At.later ?_ (by assumption))), by repeat (first | (with_reducible assumption) | (with_reducible refine At.drew ?_) | (with_reducible refine At.put (k := 0) (n := 0) ?_) | (with_reducible refine At.far ?_ (by omega)) | (with_reducible refine At.new _ _ (by simp)) | (with_reducible refine At.alloc ?_ _) | (with_reducible refine At.later ?_ (by assumption))), by repeat (first | (with_reducible assumption) | (with_reducible refine At.drew ?_) | (with_reducible refine At.put (k := 0) (n := 0) ?_) | (with_reducible refine At.far ?_ (by omega)) | (with_reducible refine At.new _ _ (by simp)) | (with_reducible refine At.alloc ?_ _) | (with_reducible refine At.later ?_ (by assumption))), by repeat (first | (with_reducible assumption) | (with_reducible refine blw_alloc _ ?_) | (with_reducible refine Below.drew ?_) | (with_reducible exact Below.refl _ _) | (with_reducible refine blw_put _ (by omega) ?_) | (with_reducible refine blw_call ?_ (by assumption)))⟩
        case rest =>
          clear hbw hws lhx lhy lhz lhq hx hy hz hq
          obtain ⟨c11, rfl, rfl, hx, hy, hz, hq, hd1, hbw⟩ := hcut
          have lhx := At.lt hx
          have lhy := At.lt hy
          have lhz := At.lt hz
          have lhq := At.lt hq
          have lhd1 := At.lt hd1
          have hws := hbw.size
          go_upto_region 7 with (fail)
          go_cut [13, 14] (fun s13 s14 wy => ∃ c13 : Nat, s13 = .pointer (some ⟨c13, 0, none⟩) ∧ s14 = .bool true ∧ At wy c5 k1 n1 ∧ At wy c6 k2 n2 ∧ At wy c7 pk pn ∧ At wy c9 qk qn ∧ At wy c11 dk dn ∧ At wy c13 ek en ∧ Below w.heap.size w wy)
          case first =>
            go_region_held3 (fun w' => At w' c5 k1 n1 ∧ At w' c6 k2 n2) ((refine ⟨?_, ?_⟩ <;> (repeat (first | (with_reducible assumption) | (with_reducible refine At.drew ?_) | (with_reducible refine At.put (k := 0) (n := 0) ?_) | (with_reducible refine At.far ?_ (by omega)) | (with_reducible refine At.new _ _ (by simp)) | (with_reducible refine At.alloc ?_ _) | (with_reducible refine At.later ?_ (by assumption))))))
              (first | (go_at_call 26; ((with_reducible refine (neg_any _ _ h2 _).mono ?_); rintro e w2 ⟨rfl, hb2⟩; have s2 := hb2.size; (try simp at s2); (first | (with_reducible have hbx := (At.new (W := wc) 0 0 rfl).drew.later hb2) | skip); have hxk : At w2 c5 k1 n1 := (by repeat (first | (with_reducible assumption) | (with_reducible refine At.drew ?_) | (with_reducible refine At.put (k := 0) (n := 0) ?_) | (with_reducible refine At.far ?_ (by omega)) | (with_reducible refine At.new _ _ (by simp)) | (with_reducible refine At.alloc ?_ _) | (with_reducible refine At.later ?_ (by assumption)))); have hyk : At w2 c6 k2 n2 := (by repeat (first | (with_reducible assumption) | (with_reducible refine At.drew ?_) | (with_reducible refine At.put (k := 0) (n := 0) ?_) | (with_reducible refine At.far ?_ (by omega)) | (with_reducible refine At.new _ _ (by simp)) | (with_reducible refine At.alloc ?_ _) | (with_reducible refine At.later ?_ (by assumption)))))) | (go_at_call 15; ((with_reducible refine (div_at h1 hn2 hd2 _).mono ?_); rintro e w3 ⟨rfl, hb3⟩; have s3 := hb3.size; (try simp at s3); (first | (with_reducible have hbx := hbx.later hb3) | (with_reducible have hbx := (At.new (W := w2) 0 0 rfl).later hb3) | skip); have hxk : At w3 c5 k1 n1 := (by repeat (first | (with_reducible assumption) | (with_reducible refine At.drew ?_) | (with_reducible refine At.put (k := 0) (n := 0) ?_) | (with_reducible refine At.far ?_ (by omega)) | (with_reducible refine At.new _ _ (by simp)) | (with_reducible refine At.alloc ?_ _) | (with_reducible refine At.later ?_ (by assumption)))); have hyk : At w3 c6 k2 n2 := (by repeat (first | (with_reducible assumption) | (with_reducible refine At.drew ?_) | (with_reducible refine At.put (k := 0) (n := 0) ?_) | (with_reducible refine At.far ?_ (by omega)) | (with_reducible refine At.new _ _ (by simp)) | (with_reducible refine At.alloc ?_ _) | (with_reducible refine At.later ?_ (by assumption)))))))
            all_goals go_wp2_with fail
            all_goals go_meet
            all_goals exact ⟨_, rfl, rfl, by repeat (first | (with_reducible assumption) | (with_reducible refine At.drew ?_) | (with_reducible refine At.put (k := 0) (n := 0) ?_) | (with_reducible refine At.far ?_ (by omega)) | (with_reducible refine At.new _ _ (by simp)) | (with_reducible refine At.alloc ?_ _) | (with_reducible refine At.later ?_ (by assumption))), by repeat (first | (with_reducible assumption) | (with_reducible refine At.drew ?_) | (with_reducible refine At.put (k := 0) (n := 0) ?_) | (with_reducible refine At.far ?_ (by omega)) | (with_reducible refine At.new _ _ (by simp)) | (with_reducible refine At.alloc ?_ _) | (with_reducible refine At.later ?_ (by assumption))), by repeat (first | (with_reducible assumption) | (with_reducible refine At.drew ?_) | (with_reducible refine At.put (k := 0) (n := 0) ?_) | (with_reducible refine At.far ?_ (by omega)) | (with_reducible refine At.new _ _ (by simp)) | (with_reducible refine At.alloc ?_ _) | (with_reducible refine At.later ?_ (by assumption))), by repeat (first | (with_reducible assumption) | (with_reducible refine At.drew ?_) | (with_reducible refine At.put (k := 0) (n := 0) ?_) | (with_reducible refine At.far ?_ (by omega)) | (with_reducible refine At.new _ _ (by simp)) | (with_reducible refine At.alloc ?_ _) | (with_reducible refine At.later ?_ (by assumption))), by repeat (first | (with_reducible assumption) | (with_reducible refine At.drew ?_) | (with_reducible refine At.put (k := 0) (n := 0) ?_) | (with_reducible refine At.far ?_ (by omega)) | (with_reducible refine At.new _ _ (by simp)) | (with_reducible refine At.alloc ?_ _) | (with_reducible refine At.later ?_ (by assumption))), by repeat (first | (with_reducible assumption) | (with_reducible refine At.drew ?_) | (with_reducible refine At.put (k := 0) (n := 0) ?_) | (with_reducible refine At.far ?_ (by omega)) | (with_reducible refine At.new _ _ (by simp)) | (with_reducible refine At.alloc ?_ _) | (with_reducible refine At.later ?_ (by assumption))), by repeat (first | (with_reducible assumption) | (with_reducible refine blw_alloc _ ?_) | (with_reducible refine Below.drew ?_) | (with_reducible exact Below.refl _ _) | (with_reducible refine blw_put _ (by omega) ?_) | (with_reducible refine blw_call ?_ (by assumption)))⟩
          case rest =>
            clear hbw hws lhx lhy lhz lhq lhd1 hx hy hz hq hd1
            obtain ⟨c13, rfl, rfl, hx, hy, hz, hq, hd1, he1, hbw⟩ := hcut
            have lhx := At.lt hx
            have lhy := At.lt hy
            have lhz := At.lt hz
            have lhq := At.lt hq
            have lhd1 := At.lt hd1
            have lhe1 := At.lt he1
            have hws := hbw.size
            go_wp2_with fail
            refine wp_region_fresh (by kernel_rfl) (by kernel_rfl) ?_
            repeat (first | go_big_quiet_skip | (go_big_quiet_want; (first | (go_big_quiet_op; go_big_quiet_on) | (apply quiet_load; exact rfl; exact rfl; (intro wq hw9; first | with_reducible exact At.later hz hw9 | with_reducible exact At.later hq hw9 | with_reducible exact At.later hd1 hw9 | with_reducible exact At.later he1 hw9); simp only [Act.put, List.setIfInBounds_toArray, List.set_cons_zero, List.set_cons_succ]; go_big_quiet_on) | (refine quiet_call1 (f := 26) (u := vv pk pn) (v := vv qk qn) rfl rfl (run_call26 _) ?_ ?_; (intro wq hw9; exact (neg_at hp hpq wq).mono (fun _ _ hh => ⟨hh.1, blw_call hw9 hh.2⟩)); simp only [Act.put, List.setIfInBounds_toArray, List.set_cons_zero, List.set_cons_succ]; go_big_quiet_on) | (refine quiet_call1 (f := 26) (u := vv dk dn) (v := vv ek en) rfl rfl (run_call26 _) ?_ ?_; (intro wq hw9; exact (neg_at hdd hde wq).mono (fun _ _ hh => ⟨hh.1, blw_call hw9 hh.2⟩)); simp only [Act.put, List.setIfInBounds_toArray, List.set_cons_zero, List.set_cons_succ]; go_big_quiet_on) | (apply quiet_pure; (intro wq; go_simp; exact rfl); simp only [Act.put, List.setIfInBounds_toArray, List.set_cons_zero, List.set_cons_succ]; go_big_quiet_on))))
            refine wpQuiet_nil ?_
            intro w9 hb9
            all_goals go_wp2_with fail
            all_goals go_ret
            all_goals exact ⟨rfl, by repeat (first | (with_reducible assumption) | (with_reducible refine blw_alloc _ ?_) | (with_reducible refine Below.drew ?_) | (with_reducible exact Below.refl _ _) | (with_reducible refine blw_put _ (by omega) ?_) | (with_reducible refine blw_call ?_ (by assumption)))⟩

set_option maxHeartbeats 1600000 in
theorem signs_tf (a b k1 n1 k2 n2 pk pn qk qn dk dn ek en : Int) (ha : Hid (numV a = (k1, n1))) (hb : Hid (numV b = (k2, n2))) (h1 : Num k1 n1) (h2 : Num k2 n2)
    (hn1 : Num (negK k1 n1) (negN k1 n1)) (hn2 : Num (negK k2 n2) (negN k2 n2)) (hm : Hid (mulR k1 n1 k2 n2 = (pk, pn, true))) (hm2 : Hid (mulR (negK k1 n1) (negN k1 n1) k2 n2 = (qk, qn, true)))
    (hd : Hid (divR k1 n1 k2 n2 = (dk, dn, false))) (hd2 : Hid (divR k1 n1 (negK k2 n2) (negN k2 n2) = (ek, en, false))) (hp : Num pk pn) (hpq : Hid (negK pk pn = qk ∧ negN pk pn = qn))  (w : World) :
    Calls Tryd.prog 8 #[.int .i64 a, .int .i64 b] w fun e w' => e = .returned (.bool true) ∧ Below w.heap.size w w' := by
  go_enter Tryd.func8, Tryd.ntmps8
  go_upto_region 3 with (first | (go_at_call 9; ((with_reducible refine (fit_any _).mono ?_); rintro e w1 ⟨rfl, hbf⟩)))
  go_cut [5, 6] (fun s5 s6 wx => ∃ c5 c6 : Nat, s5 = .pointer (some ⟨c5, 0, none⟩) ∧ s6 = .pointer (some ⟨c6, 0, none⟩) ∧ At wx c5 k1 n1 ∧ At wx c6 k2 n2 ∧ Below w.heap.size w wx)
  case first =>
    go_wp2_with (first | (go_at_call 10; ((with_reducible refine (numOf_at _ _ _ ha _).mono ?_); rintro e w' ⟨rfl, rfl⟩)) | (go_at_call 10; ((with_reducible refine (numOf_at _ _ _ hb _).mono ?_); rintro e w' ⟨rfl, rfl⟩)))
    go_meet
    exact ⟨_, _, rfl, rfl, by repeat (first | (with_reducible assumption) | (with_reducible refine At.drew ?_) | (with_reducible refine At.put (k := 0) (n := 0) ?_) | (with_reducible refine At.far ?_ (by omega)) | (with_reducible refine At.new _ _ (by simp)) | (with_reducible refine At.alloc ?_ _) | (with_reducible refine At.later ?_ (by assumption))), by repeat (first | (with_reducible assumption) | (with_reducible refine At.drew ?_) | (with_reducible refine At.put (k := 0) (n := 0) ?_) | (with_reducible refine At.far ?_ (by omega)) | (with_reducible refine At.new _ _ (by simp)) | (with_reducible refine At.alloc ?_ _) | (with_reducible refine At.later ?_ (by assumption))), by repeat (first | (with_reducible assumption) | (with_reducible refine blw_alloc _ ?_) | (with_reducible refine Below.drew ?_) | (with_reducible exact Below.refl _ _) | (with_reducible refine blw_put _ (by omega) ?_) | (with_reducible refine blw_call ?_ (by assumption)))⟩
  case rest =>
    obtain ⟨c5, c6, rfl, rfl, hx, hy, hbw⟩ := hcut
    have lhx := At.lt hx
    have lhy := At.lt hy
    have hws := hbw.size
    go_upto_region 4 with (fail)
    go_cut [7, 8] (fun s7 s8 wx => ∃ c7 : Nat, s7 = .pointer (some ⟨c7, 0, none⟩) ∧ s8 = .bool true ∧ At wx c5 k1 n1 ∧ At wx c6 k2 n2 ∧ At wx c7 pk pn ∧ Below w.heap.size w wx)
    case first =>
      go_wp2_with (first | (go_at_call 14; ((with_reducible refine (mul_at h1 h2 hm _).mono ?_); rintro e w2 ⟨rfl, hb2⟩)))
      go_meet
      exact ⟨_, rfl, rfl, by repeat (first | (with_reducible assumption) | (with_reducible refine At.drew ?_) | (with_reducible refine At.put (k := 0) (n := 0) ?_) | (with_reducible refine At.far ?_ (by omega)) | (with_reducible refine At.new _ _ (by simp)) | (with_reducible refine At.alloc ?_ _) | (with_reducible refine At.later ?_ (by assumption))), by repeat (first | (with_reducible assumption) | (with_reducible refine At.drew ?_) | (with_reducible refine At.put (k := 0) (n := 0) ?_) | (with_reducible refine At.far ?_ (by omega)) | (with_reducible refine At.new _ _ (by simp)) | (with_reducible refine At.alloc ?_ _) | (with_reducible refine At.later ?_ (by assumption))), by repeat (first | (with_reducible assumption) | (with_reducible refine At.drew ?_) | (with_reducible refine At.put (k := 0) (n := 0) ?_) | (with_reducible refine At.far ?_ (by omega)) | (with_reducible refine At.new _ _ (by simp)) | (with_reducible refine At.alloc ?_ _) | (with_reducible refine At.later ?_ (by assumption))), by repeat (first | (with_reducible assumption) | (with_reducible refine blw_alloc _ ?_) | (with_reducible refine Below.drew ?_) | (with_reducible exact Below.refl _ _) | (with_reducible refine blw_put _ (by omega) ?_) | (with_reducible refine blw_call ?_ (by assumption)))⟩
    case rest =>
      clear hbw hws lhx lhy hx hy
      obtain ⟨c7, rfl, rfl, hx, hy, hz, hbw⟩ := hcut
      have lhx := At.lt hx
      have lhy := At.lt hy
      have lhz := At.lt hz
      have hws := hbw.size
      go_upto_region 5 with (fail)
      go_cut [9, 10] (fun s9 s10 wy => ∃ c9 : Nat, s9 = .pointer (some ⟨c9, 0, none⟩) ∧ s10 = .bool true ∧ At wy c5 k1 n1 ∧ At wy c6 k2 n2 ∧ At wy c7 pk pn ∧ At wy c9 qk qn ∧ Below w.heap.size w wy)
      case first =>
        go_region_held3 (fun w' => At w' c5 k1 n1 ∧ At w' c6 k2 n2) ((refine ⟨?_, ?_⟩ <;> (repeat (first | (with_reducible assumption) | (with_reducible refine At.drew ?_) | (with_reducible refine At.put (k := 0) (n := 0) ?_) | (with_reducible refine At.far ?_ (by omega)) | (with_reducible refine At.new _ _ (by simp)) | (with_reducible refine At.alloc ?_ _) | (with_reducible refine At.later ?_ (by assumption))))))
          (first | (go_at_call 26; ((with_reducible refine (neg_any _ _ h1 _).mono ?_); rintro e w2 ⟨rfl, hb2⟩; have s2 := hb2.size; (try simp at s2); (first | (with_reducible have hbx := (At.new (W := wc) 0 0 rfl).drew.later hb2) | skip); have hxk : At w2 c5 k1 n1 := (by repeat (first | (with_reducible assumption) | (with_reducible refine At.drew ?_) | (with_reducible refine At.put (k := 0) (n := 0) ?_) | (with_reducible refine At.far ?_ (by omega)) | (with_reducible refine At.new _ _ (by simp)) | (with_reducible refine At.alloc ?_ _) | (with_reducible refine At.later ?_ (by assumption)))); have hyk : At w2 c6 k2 n2 := (by repeat (first | (with_reducible assumption) | (with_reducible refine At.drew ?_) | (with_reducible refine At.put (k := 0) (n := 0) ?_) | (with_reducible refine At.far ?_ (by omega)) | (with_reducible refine At.new _ _ (by simp)) | (with_reducible refine At.alloc ?_ _) | (with_reducible refine At.later ?_ (by assumption)))))) | (go_at_call 14; ((with_reducible refine (mul_at hn1 h2 hm2 _).mono ?_); rintro e w3 ⟨rfl, hb3⟩; have s3 := hb3.size; (try simp at s3); (first | (with_reducible have hbx := hbx.later hb3) | (with_reducible have hbx := (At.new (W := w2) 0 0 rfl).later hb3) | skip); have hxk : At w3 c5 k1 n1 := (by repeat (first | (with_reducible assumption) | (with_reducible refine At.drew ?_) | (with_reducible refine At.put (k := 0) (n := 0) ?_) | (with_reducible refine At.far ?_ (by omega)) | (with_reducible refine At.new _ _ (by simp)) | (with_reducible refine At.alloc ?_ _) | (with_reducible refine At.later ?_ (by assumption)))); have hyk : At w3 c6 k2 n2 := (by repeat (first | (with_reducible assumption) | (with_reducible refine At.drew ?_) | (with_reducible refine At.put (k := 0) (n := 0) ?_) | (with_reducible refine At.far ?_ (by omega)) | (with_reducible refine At.new _ _ (by simp)) | (with_reducible refine At.alloc ?_ _) | (with_reducible refine At.later ?_ (by assumption)))))))
        all_goals go_wp2_with fail
        all_goals go_meet
        all_goals exact ⟨_, rfl, rfl, by repeat (first | (with_reducible assumption) | (with_reducible refine At.drew ?_) | (with_reducible refine At.put (k := 0) (n := 0) ?_) | (with_reducible refine At.far ?_ (by omega)) | (with_reducible refine At.new _ _ (by simp)) | (with_reducible refine At.alloc ?_ _) | (with_reducible refine At.later ?_ (by assumption))), by repeat (first | (with_reducible assumption) | (with_reducible refine At.drew ?_) | (with_reducible refine At.put (k := 0) (n := 0) ?_) | (with_reducible refine At.far ?_ (by omega)) | (with_reducible refine At.new _ _ (by simp)) | (with_reducible refine At.alloc ?_ _) | (with_reducible refine At.later ?_ (by assumption))), by repeat (first | (with_reducible assumption) | (with_reducible refine At.drew ?_) | (with_reducible refine At.put (k := 0) (n := 0) ?_) | (with_reducible refine At.far ?_ (by omega)) | (with_reducible refine At.new _ _ (by simp)) | (with_reducible refine At.alloc ?_ _) | (with_reducible refine At.later ?_ (by assumption))), by repeat (first | (with_reducible assumption) | (with_reducible refine At.drew ?_) | (with_reducible refine At.put (k := 0) (n := 0) ?_) | (with_reducible refine At.far ?_ (by omega)) | (with_reducible refine At.new _ _ (by simp)) | (with_reducible refine At.alloc ?_ _) | (with_reducible refine At.later ?_ (by assumption))), by repeat (first | (with_reducible assumption) | (with_reducible refine blw_alloc _ ?_) | (with_reducible refine Below.drew ?_) | (with_reducible exact Below.refl _ _) | (with_reducible refine blw_put _ (by omega) ?_) | (with_reducible refine blw_call ?_ (by assumption)))⟩
      case rest =>
        clear hbw hws lhx lhy lhz hx hy hz
        obtain ⟨c9, rfl, rfl, hx, hy, hz, hq, hbw⟩ := hcut
        have lhx := At.lt hx
        have lhy := At.lt hy
        have lhz := At.lt hz
        have lhq := At.lt hq
        have hws := hbw.size
        go_upto_region 6 with (fail)
        go_cut [11, 12] (fun s11 s12 wy => ∃ c11 : Nat, s11 = .pointer (some ⟨c11, 0, none⟩) ∧ s12 = .bool false ∧ At wy c5 k1 n1 ∧ At wy c6 k2 n2 ∧ At wy c7 pk pn ∧ At wy c9 qk qn ∧ At wy c11 dk dn ∧ Below w.heap.size w wy)
        case first =>
          go_wp2_with (first | (go_at_call 15; ((with_reducible refine (div_at h1 h2 hd _).mono ?_); rintro e w2 ⟨rfl, hb2⟩)))
          go_meet
          exact ⟨_, rfl, rfl, by repeat (first | (with_reducible assumption) | (with_reducible refine At.drew ?_) | (with_reducible refine At.put (k := 0) (n := 0) ?_) | (with_reducible refine At.far ?_ (by omega)) | (with_reducible refine At.new _ _ (by simp)) | (with_reducible refine At.alloc ?_ _) | (with_reducible refine At.later ?_ (by assumption))), by repeat (first | (with_reducible assumption) | (with_reducible refine At.drew ?_) | (with_reducible refine At.put (k := 0) (n := 0) ?_) | (with_reducible refine At.far ?_ (by omega)) | (with_reducible refine At.new _ _ (by simp)) | (with_reducible refine At.alloc ?_ _) | (with_reducible refine At.later ?_ (by assumption))), by repeat (first | (with_reducible assumption) | (with_reducible refine At.drew ?_) | (with_reducible refine At.put (k := 0) (n := 0) ?_) | (with_reducible refine At.far ?_ (by omega)) | (with_reducible refine At.new _ _ (by simp)) | (with_reducible refine At.alloc ?_ _) | (with_reducible refine At.later ?_ (by assumption))), by repeat (first | (with_reducible assumption) | (with_reducible refine At.drew ?_) | (with_reducible refine At.put (k := 0) (n := 0) ?_) | (with_reducible refine At.far ?_ (by omega)) | (with_reducible refine At.new _ _ (by simp)) | (with_reducible refine At.alloc ?_ _) | (with_reducible refine At.later ?_ (by assumption))), by repeat (first | (with_reducible assumption) | (with_reducible refine At.drew ?_) | (with_reducible refine At.put (k := 0) (n := 0) ?_) | (with_reducible refine At.far ?_ (by omega)) | (with_reducible refine At.new _ _ (by simp)) | (with_reducible refine At.alloc ?_ _) | (with_reducible refine At.later ?_ (by assumption))), by repeat (first | (with_reducible assumption) | (with_reducible refine blw_alloc _ ?_) | (with_reducible refine Below.drew ?_) | (with_reducible exact Below.refl _ _) | (with_reducible refine blw_put _ (by omega) ?_) | (with_reducible refine blw_call ?_ (by assumption)))⟩
        case rest =>
          clear hbw hws lhx lhy lhz lhq hx hy hz hq
          obtain ⟨c11, rfl, rfl, hx, hy, hz, hq, hd1, hbw⟩ := hcut
          have lhx := At.lt hx
          have lhy := At.lt hy
          have lhz := At.lt hz
          have lhq := At.lt hq
          have lhd1 := At.lt hd1
          have hws := hbw.size
          go_upto_region 7 with (fail)
          go_cut [13, 14] (fun s13 s14 wy => ∃ c13 : Nat, s13 = .pointer (some ⟨c13, 0, none⟩) ∧ s14 = .bool false ∧ At wy c5 k1 n1 ∧ At wy c6 k2 n2 ∧ At wy c7 pk pn ∧ At wy c9 qk qn ∧ At wy c11 dk dn ∧ At wy c13 ek en ∧ Below w.heap.size w wy)
          case first =>
            go_region_held3 (fun w' => At w' c5 k1 n1 ∧ At w' c6 k2 n2) ((refine ⟨?_, ?_⟩ <;> (repeat (first | (with_reducible assumption) | (with_reducible refine At.drew ?_) | (with_reducible refine At.put (k := 0) (n := 0) ?_) | (with_reducible refine At.far ?_ (by omega)) | (with_reducible refine At.new _ _ (by simp)) | (with_reducible refine At.alloc ?_ _) | (with_reducible refine At.later ?_ (by assumption))))))
              (first | (go_at_call 26; ((with_reducible refine (neg_any _ _ h2 _).mono ?_); rintro e w2 ⟨rfl, hb2⟩; have s2 := hb2.size; (try simp at s2); (first | (with_reducible have hbx := (At.new (W := wc) 0 0 rfl).drew.later hb2) | skip); have hxk : At w2 c5 k1 n1 := (by repeat (first | (with_reducible assumption) | (with_reducible refine At.drew ?_) | (with_reducible refine At.put (k := 0) (n := 0) ?_) | (with_reducible refine At.far ?_ (by omega)) | (with_reducible refine At.new _ _ (by simp)) | (with_reducible refine At.alloc ?_ _) | (with_reducible refine At.later ?_ (by assumption)))); have hyk : At w2 c6 k2 n2 := (by repeat (first | (with_reducible assumption) | (with_reducible refine At.drew ?_) | (with_reducible refine At.put (k := 0) (n := 0) ?_) | (with_reducible refine At.far ?_ (by omega)) | (with_reducible refine At.new _ _ (by simp)) | (with_reducible refine At.alloc ?_ _) | (with_reducible refine At.later ?_ (by assumption)))))) | (go_at_call 15; ((with_reducible refine (div_at h1 hn2 hd2 _).mono ?_); rintro e w3 ⟨rfl, hb3⟩; have s3 := hb3.size; (try simp at s3); (first | (with_reducible have hbx := hbx.later hb3) | (with_reducible have hbx := (At.new (W := w2) 0 0 rfl).later hb3) | skip); have hxk : At w3 c5 k1 n1 := (by repeat (first | (with_reducible assumption) | (with_reducible refine At.drew ?_) | (with_reducible refine At.put (k := 0) (n := 0) ?_) | (with_reducible refine At.far ?_ (by omega)) | (with_reducible refine At.new _ _ (by simp)) | (with_reducible refine At.alloc ?_ _) | (with_reducible refine At.later ?_ (by assumption)))); have hyk : At w3 c6 k2 n2 := (by repeat (first | (with_reducible assumption) | (with_reducible refine At.drew ?_) | (with_reducible refine At.put (k := 0) (n := 0) ?_) | (with_reducible refine At.far ?_ (by omega)) | (with_reducible refine At.new _ _ (by simp)) | (with_reducible refine At.alloc ?_ _) | (with_reducible refine At.later ?_ (by assumption)))))))
            all_goals go_wp2_with fail
            all_goals go_meet
            all_goals exact ⟨_, rfl, rfl, by repeat (first | (with_reducible assumption) | (with_reducible refine At.drew ?_) | (with_reducible refine At.put (k := 0) (n := 0) ?_) | (with_reducible refine At.far ?_ (by omega)) | (with_reducible refine At.new _ _ (by simp)) | (with_reducible refine At.alloc ?_ _) | (with_reducible refine At.later ?_ (by assumption))), by repeat (first | (with_reducible assumption) | (with_reducible refine At.drew ?_) | (with_reducible refine At.put (k := 0) (n := 0) ?_) | (with_reducible refine At.far ?_ (by omega)) | (with_reducible refine At.new _ _ (by simp)) | (with_reducible refine At.alloc ?_ _) | (with_reducible refine At.later ?_ (by assumption))), by repeat (first | (with_reducible assumption) | (with_reducible refine At.drew ?_) | (with_reducible refine At.put (k := 0) (n := 0) ?_) | (with_reducible refine At.far ?_ (by omega)) | (with_reducible refine At.new _ _ (by simp)) | (with_reducible refine At.alloc ?_ _) | (with_reducible refine At.later ?_ (by assumption))), by repeat (first | (with_reducible assumption) | (with_reducible refine At.drew ?_) | (with_reducible refine At.put (k := 0) (n := 0) ?_) | (with_reducible refine At.far ?_ (by omega)) | (with_reducible refine At.new _ _ (by simp)) | (with_reducible refine At.alloc ?_ _) | (with_reducible refine At.later ?_ (by assumption))), by repeat (first | (with_reducible assumption) | (with_reducible refine At.drew ?_) | (with_reducible refine At.put (k := 0) (n := 0) ?_) | (with_reducible refine At.far ?_ (by omega)) | (with_reducible refine At.new _ _ (by simp)) | (with_reducible refine At.alloc ?_ _) | (with_reducible refine At.later ?_ (by assumption))), by repeat (first | (with_reducible assumption) | (with_reducible refine At.drew ?_) | (with_reducible refine At.put (k := 0) (n := 0) ?_) | (with_reducible refine At.far ?_ (by omega)) | (with_reducible refine At.new _ _ (by simp)) | (with_reducible refine At.alloc ?_ _) | (with_reducible refine At.later ?_ (by assumption))), by repeat (first | (with_reducible assumption) | (with_reducible refine blw_alloc _ ?_) | (with_reducible refine Below.drew ?_) | (with_reducible exact Below.refl _ _) | (with_reducible refine blw_put _ (by omega) ?_) | (with_reducible refine blw_call ?_ (by assumption)))⟩
          case rest =>
            clear hbw hws lhx lhy lhz lhq lhd1 hx hy hz hq hd1
            obtain ⟨c13, rfl, rfl, hx, hy, hz, hq, hd1, he1, hbw⟩ := hcut
            have lhx := At.lt hx
            have lhy := At.lt hy
            have lhz := At.lt hz
            have lhq := At.lt hq
            have lhd1 := At.lt hd1
            have lhe1 := At.lt he1
            have hws := hbw.size
            go_wp2_with fail
            refine wp_region_fresh (by kernel_rfl) (by kernel_rfl) ?_
            repeat (first | go_big_quiet_skip | (go_big_quiet_want; (first | (go_big_quiet_op; go_big_quiet_on) | (apply quiet_load; exact rfl; exact rfl; (intro wq hw9; first | with_reducible exact At.later hz hw9 | with_reducible exact At.later hq hw9 | with_reducible exact At.later hd1 hw9 | with_reducible exact At.later he1 hw9); simp only [Act.put, List.setIfInBounds_toArray, List.set_cons_zero, List.set_cons_succ]; go_big_quiet_on) | (refine quiet_call1 (f := 26) (u := vv pk pn) (v := vv qk qn) rfl rfl (run_call26 _) ?_ ?_; (intro wq hw9; exact (neg_at hp hpq wq).mono (fun _ _ hh => ⟨hh.1, blw_call hw9 hh.2⟩)); simp only [Act.put, List.setIfInBounds_toArray, List.set_cons_zero, List.set_cons_succ]; go_big_quiet_on) | (apply quiet_pure; (intro wq; go_simp; exact rfl); simp only [Act.put, List.setIfInBounds_toArray, List.set_cons_zero, List.set_cons_succ]; go_big_quiet_on))))
            refine wpQuiet_nil ?_
            intro w9 hb9
            all_goals go_wp2_with fail
            all_goals go_ret
            all_goals exact ⟨rfl, by repeat (first | (with_reducible assumption) | (with_reducible refine blw_alloc _ ?_) | (with_reducible refine Below.drew ?_) | (with_reducible exact Below.refl _ _) | (with_reducible refine blw_put _ (by omega) ?_) | (with_reducible refine blw_call ?_ (by assumption)))⟩

set_option maxHeartbeats 1600000 in
theorem signs_ft (a b k1 n1 k2 n2 pk pn qk qn dk dn ek en : Int) (ha : Hid (numV a = (k1, n1))) (hb : Hid (numV b = (k2, n2))) (h1 : Num k1 n1) (h2 : Num k2 n2)
    (hn1 : Num (negK k1 n1) (negN k1 n1)) (hn2 : Num (negK k2 n2) (negN k2 n2)) (hm : Hid (mulR k1 n1 k2 n2 = (pk, pn, false))) (hm2 : Hid (mulR (negK k1 n1) (negN k1 n1) k2 n2 = (qk, qn, false)))
    (hd : Hid (divR k1 n1 k2 n2 = (dk, dn, true))) (hd2 : Hid (divR k1 n1 (negK k2 n2) (negN k2 n2) = (ek, en, true))) (hdd : Num dk dn) (hde : Hid (negK dk dn = ek ∧ negN dk dn = en)) (w : World) :
    Calls Tryd.prog 8 #[.int .i64 a, .int .i64 b] w fun e w' => e = .returned (.bool true) ∧ Below w.heap.size w w' := by
  go_enter Tryd.func8, Tryd.ntmps8
  go_upto_region 3 with (first | (go_at_call 9; ((with_reducible refine (fit_any _).mono ?_); rintro e w1 ⟨rfl, hbf⟩)))
  go_cut [5, 6] (fun s5 s6 wx => ∃ c5 c6 : Nat, s5 = .pointer (some ⟨c5, 0, none⟩) ∧ s6 = .pointer (some ⟨c6, 0, none⟩) ∧ At wx c5 k1 n1 ∧ At wx c6 k2 n2 ∧ Below w.heap.size w wx)
  case first =>
    go_wp2_with (first | (go_at_call 10; ((with_reducible refine (numOf_at _ _ _ ha _).mono ?_); rintro e w' ⟨rfl, rfl⟩)) | (go_at_call 10; ((with_reducible refine (numOf_at _ _ _ hb _).mono ?_); rintro e w' ⟨rfl, rfl⟩)))
    go_meet
    exact ⟨_, _, rfl, rfl, by repeat (first | (with_reducible assumption) | (with_reducible refine At.drew ?_) | (with_reducible refine At.put (k := 0) (n := 0) ?_) | (with_reducible refine At.far ?_ (by omega)) | (with_reducible refine At.new _ _ (by simp)) | (with_reducible refine At.alloc ?_ _) | (with_reducible refine At.later ?_ (by assumption))), by repeat (first | (with_reducible assumption) | (with_reducible refine At.drew ?_) | (with_reducible refine At.put (k := 0) (n := 0) ?_) | (with_reducible refine At.far ?_ (by omega)) | (with_reducible refine At.new _ _ (by simp)) | (with_reducible refine At.alloc ?_ _) | (with_reducible refine At.later ?_ (by assumption))), by repeat (first | (with_reducible assumption) | (with_reducible refine blw_alloc _ ?_) | (with_reducible refine Below.drew ?_) | (with_reducible exact Below.refl _ _) | (with_reducible refine blw_put _ (by omega) ?_) | (with_reducible refine blw_call ?_ (by assumption)))⟩
  case rest =>
    obtain ⟨c5, c6, rfl, rfl, hx, hy, hbw⟩ := hcut
    have lhx := At.lt hx
    have lhy := At.lt hy
    have hws := hbw.size
    go_upto_region 4 with (fail)
    go_cut [7, 8] (fun s7 s8 wx => ∃ c7 : Nat, s7 = .pointer (some ⟨c7, 0, none⟩) ∧ s8 = .bool false ∧ At wx c5 k1 n1 ∧ At wx c6 k2 n2 ∧ At wx c7 pk pn ∧ Below w.heap.size w wx)
    case first =>
      go_wp2_with (first | (go_at_call 14; ((with_reducible refine (mul_at h1 h2 hm _).mono ?_); rintro e w2 ⟨rfl, hb2⟩)))
      go_meet
      exact ⟨_, rfl, rfl, by repeat (first | (with_reducible assumption) | (with_reducible refine At.drew ?_) | (with_reducible refine At.put (k := 0) (n := 0) ?_) | (with_reducible refine At.far ?_ (by omega)) | (with_reducible refine At.new _ _ (by simp)) | (with_reducible refine At.alloc ?_ _) | (with_reducible refine At.later ?_ (by assumption))), by repeat (first | (with_reducible assumption) | (with_reducible refine At.drew ?_) | (with_reducible refine At.put (k := 0) (n := 0) ?_) | (with_reducible refine At.far ?_ (by omega)) | (with_reducible refine At.new _ _ (by simp)) | (with_reducible refine At.alloc ?_ _) | (with_reducible refine At.later ?_ (by assumption))), by repeat (first | (with_reducible assumption) | (with_reducible refine At.drew ?_) | (with_reducible refine At.put (k := 0) (n := 0) ?_) | (with_reducible refine At.far ?_ (by omega)) | (with_reducible refine At.new _ _ (by simp)) | (with_reducible refine At.alloc ?_ _) | (with_reducible refine At.later ?_ (by assumption))), by repeat (first | (with_reducible assumption) | (with_reducible refine blw_alloc _ ?_) | (with_reducible refine Below.drew ?_) | (with_reducible exact Below.refl _ _) | (with_reducible refine blw_put _ (by omega) ?_) | (with_reducible refine blw_call ?_ (by assumption)))⟩
    case rest =>
      clear hbw hws lhx lhy hx hy
      obtain ⟨c7, rfl, rfl, hx, hy, hz, hbw⟩ := hcut
      have lhx := At.lt hx
      have lhy := At.lt hy
      have lhz := At.lt hz
      have hws := hbw.size
      go_upto_region 5 with (fail)
      go_cut [9, 10] (fun s9 s10 wy => ∃ c9 : Nat, s9 = .pointer (some ⟨c9, 0, none⟩) ∧ s10 = .bool false ∧ At wy c5 k1 n1 ∧ At wy c6 k2 n2 ∧ At wy c7 pk pn ∧ At wy c9 qk qn ∧ Below w.heap.size w wy)
      case first =>
        go_region_held3 (fun w' => At w' c5 k1 n1 ∧ At w' c6 k2 n2) ((refine ⟨?_, ?_⟩ <;> (repeat (first | (with_reducible assumption) | (with_reducible refine At.drew ?_) | (with_reducible refine At.put (k := 0) (n := 0) ?_) | (with_reducible refine At.far ?_ (by omega)) | (with_reducible refine At.new _ _ (by simp)) | (with_reducible refine At.alloc ?_ _) | (with_reducible refine At.later ?_ (by assumption))))))
          (first | (go_at_call 26; ((with_reducible refine (neg_any _ _ h1 _).mono ?_); rintro e w2 ⟨rfl, hb2⟩; have s2 := hb2.size; (try simp at s2); (first | (with_reducible have hbx := (At.new (W := wc) 0 0 rfl).drew.later hb2) | skip); have hxk : At w2 c5 k1 n1 := (by repeat (first | (with_reducible assumption) | (with_reducible refine At.drew ?_) | (with_reducible refine At.put (k := 0) (n := 0) ?_) | (with_reducible refine At.far ?_ (by omega)) | (with_reducible refine At.new _ _ (by simp)) | (with_reducible refine At.alloc ?_ _) | (with_reducible refine At.later ?_ (by assumption)))); have hyk : At w2 c6 k2 n2 := (by repeat (first | (with_reducible assumption) | (with_reducible refine At.drew ?_) | (with_reducible refine At.put (k := 0) (n := 0) ?_) | (with_reducible refine At.far ?_ (by omega)) | (with_reducible refine At.new _ _ (by simp)) | (with_reducible refine At.alloc ?_ _) | (with_reducible refine At.later ?_ (by assumption)))))) | (go_at_call 14; ((with_reducible refine (mul_at hn1 h2 hm2 _).mono ?_); rintro e w3 ⟨rfl, hb3⟩; have s3 := hb3.size; (try simp at s3); (first | (with_reducible have hbx := hbx.later hb3) | (with_reducible have hbx := (At.new (W := w2) 0 0 rfl).later hb3) | skip); have hxk : At w3 c5 k1 n1 := (by repeat (first | (with_reducible assumption) | (with_reducible refine At.drew ?_) | (with_reducible refine At.put (k := 0) (n := 0) ?_) | (with_reducible refine At.far ?_ (by omega)) | (with_reducible refine At.new _ _ (by simp)) | (with_reducible refine At.alloc ?_ _) | (with_reducible refine At.later ?_ (by assumption)))); have hyk : At w3 c6 k2 n2 := (by repeat (first | (with_reducible assumption) | (with_reducible refine At.drew ?_) | (with_reducible refine At.put (k := 0) (n := 0) ?_) | (with_reducible refine At.far ?_ (by omega)) | (with_reducible refine At.new _ _ (by simp)) | (with_reducible refine At.alloc ?_ _) | (with_reducible refine At.later ?_ (by assumption)))))))
        all_goals go_wp2_with fail
        all_goals go_meet
        all_goals exact ⟨_, rfl, rfl, by repeat (first | (with_reducible assumption) | (with_reducible refine At.drew ?_) | (with_reducible refine At.put (k := 0) (n := 0) ?_) | (with_reducible refine At.far ?_ (by omega)) | (with_reducible refine At.new _ _ (by simp)) | (with_reducible refine At.alloc ?_ _) | (with_reducible refine At.later ?_ (by assumption))), by repeat (first | (with_reducible assumption) | (with_reducible refine At.drew ?_) | (with_reducible refine At.put (k := 0) (n := 0) ?_) | (with_reducible refine At.far ?_ (by omega)) | (with_reducible refine At.new _ _ (by simp)) | (with_reducible refine At.alloc ?_ _) | (with_reducible refine At.later ?_ (by assumption))), by repeat (first | (with_reducible assumption) | (with_reducible refine At.drew ?_) | (with_reducible refine At.put (k := 0) (n := 0) ?_) | (with_reducible refine At.far ?_ (by omega)) | (with_reducible refine At.new _ _ (by simp)) | (with_reducible refine At.alloc ?_ _) | (with_reducible refine At.later ?_ (by assumption))), by repeat (first | (with_reducible assumption) | (with_reducible refine At.drew ?_) | (with_reducible refine At.put (k := 0) (n := 0) ?_) | (with_reducible refine At.far ?_ (by omega)) | (with_reducible refine At.new _ _ (by simp)) | (with_reducible refine At.alloc ?_ _) | (with_reducible refine At.later ?_ (by assumption))), by repeat (first | (with_reducible assumption) | (with_reducible refine blw_alloc _ ?_) | (with_reducible refine Below.drew ?_) | (with_reducible exact Below.refl _ _) | (with_reducible refine blw_put _ (by omega) ?_) | (with_reducible refine blw_call ?_ (by assumption)))⟩
      case rest =>
        clear hbw hws lhx lhy lhz hx hy hz
        obtain ⟨c9, rfl, rfl, hx, hy, hz, hq, hbw⟩ := hcut
        have lhx := At.lt hx
        have lhy := At.lt hy
        have lhz := At.lt hz
        have lhq := At.lt hq
        have hws := hbw.size
        go_upto_region 6 with (fail)
        go_cut [11, 12] (fun s11 s12 wy => ∃ c11 : Nat, s11 = .pointer (some ⟨c11, 0, none⟩) ∧ s12 = .bool true ∧ At wy c5 k1 n1 ∧ At wy c6 k2 n2 ∧ At wy c7 pk pn ∧ At wy c9 qk qn ∧ At wy c11 dk dn ∧ Below w.heap.size w wy)
        case first =>
          go_wp2_with (first | (go_at_call 15; ((with_reducible refine (div_at h1 h2 hd _).mono ?_); rintro e w2 ⟨rfl, hb2⟩)))
          go_meet
          exact ⟨_, rfl, rfl, by repeat (first | (with_reducible assumption) | (with_reducible refine At.drew ?_) | (with_reducible refine At.put (k := 0) (n := 0) ?_) | (with_reducible refine At.far ?_ (by omega)) | (with_reducible refine At.new _ _ (by simp)) | (with_reducible refine At.alloc ?_ _) | (with_reducible refine At.later ?_ (by assumption))), by repeat (first | (with_reducible assumption) | (with_reducible refine At.drew ?_) | (with_reducible refine At.put (k := 0) (n := 0) ?_) | (with_reducible refine At.far ?_ (by omega)) | (with_reducible refine At.new _ _ (by simp)) | (with_reducible refine At.alloc ?_ _) | (with_reducible refine At.later ?_ (by assumption))), by repeat (first | (with_reducible assumption) | (with_reducible refine At.drew ?_) | (with_reducible refine At.put (k := 0) (n := 0) ?_) | (with_reducible refine At.far ?_ (by omega)) | (with_reducible refine At.new _ _ (by simp)) | (with_reducible refine At.alloc ?_ _) | (with_reducible refine At.later ?_ (by assumption))), by repeat (first | (with_reducible assumption) | (with_reducible refine At.drew ?_) | (with_reducible refine At.put (k := 0) (n := 0) ?_) | (with_reducible refine At.far ?_ (by omega)) | (with_reducible refine At.new _ _ (by simp)) | (with_reducible refine At.alloc ?_ _) | (with_reducible refine At.later ?_ (by assumption))), by repeat (first | (with_reducible assumption) | (with_reducible refine At.drew ?_) | (with_reducible refine At.put (k := 0) (n := 0) ?_) | (with_reducible refine At.far ?_ (by omega)) | (with_reducible refine At.new _ _ (by simp)) | (with_reducible refine At.alloc ?_ _) | (with_reducible refine At.later ?_ (by assumption))), by repeat (first | (with_reducible assumption) | (with_reducible refine blw_alloc _ ?_) | (with_reducible refine Below.drew ?_) | (with_reducible exact Below.refl _ _) | (with_reducible refine blw_put _ (by omega) ?_) | (with_reducible refine blw_call ?_ (by assumption)))⟩
        case rest =>
          clear hbw hws lhx lhy lhz lhq hx hy hz hq
          obtain ⟨c11, rfl, rfl, hx, hy, hz, hq, hd1, hbw⟩ := hcut
          have lhx := At.lt hx
          have lhy := At.lt hy
          have lhz := At.lt hz
          have lhq := At.lt hq
          have lhd1 := At.lt hd1
          have hws := hbw.size
          go_upto_region 7 with (fail)
          go_cut [13, 14] (fun s13 s14 wy => ∃ c13 : Nat, s13 = .pointer (some ⟨c13, 0, none⟩) ∧ s14 = .bool true ∧ At wy c5 k1 n1 ∧ At wy c6 k2 n2 ∧ At wy c7 pk pn ∧ At wy c9 qk qn ∧ At wy c11 dk dn ∧ At wy c13 ek en ∧ Below w.heap.size w wy)
          case first =>
            go_region_held3 (fun w' => At w' c5 k1 n1 ∧ At w' c6 k2 n2) ((refine ⟨?_, ?_⟩ <;> (repeat (first | (with_reducible assumption) | (with_reducible refine At.drew ?_) | (with_reducible refine At.put (k := 0) (n := 0) ?_) | (with_reducible refine At.far ?_ (by omega)) | (with_reducible refine At.new _ _ (by simp)) | (with_reducible refine At.alloc ?_ _) | (with_reducible refine At.later ?_ (by assumption))))))
              (first | (go_at_call 26; ((with_reducible refine (neg_any _ _ h2 _).mono ?_); rintro e w2 ⟨rfl, hb2⟩; have s2 := hb2.size; (try simp at s2); (first | (with_reducible have hbx := (At.new (W := wc) 0 0 rfl).drew.later hb2) | skip); have hxk : At w2 c5 k1 n1 := (by repeat (first | (with_reducible assumption) | (with_reducible refine At.drew ?_) | (with_reducible refine At.put (k := 0) (n := 0) ?_) | (with_reducible refine At.far ?_ (by omega)) | (with_reducible refine At.new _ _ (by simp)) | (with_reducible refine At.alloc ?_ _) | (with_reducible refine At.later ?_ (by assumption)))); have hyk : At w2 c6 k2 n2 := (by repeat (first | (with_reducible assumption) | (with_reducible refine At.drew ?_) | (with_reducible refine At.put (k := 0) (n := 0) ?_) | (with_reducible refine At.far ?_ (by omega)) | (with_reducible refine At.new _ _ (by simp)) | (with_reducible refine At.alloc ?_ _) | (with_reducible refine At.later ?_ (by assumption)))))) | (go_at_call 15; ((with_reducible refine (div_at h1 hn2 hd2 _).mono ?_); rintro e w3 ⟨rfl, hb3⟩; have s3 := hb3.size; (try simp at s3); (first | (with_reducible have hbx := hbx.later hb3) | (with_reducible have hbx := (At.new (W := w2) 0 0 rfl).later hb3) | skip); have hxk : At w3 c5 k1 n1 := (by repeat (first | (with_reducible assumption) | (with_reducible refine At.drew ?_) | (with_reducible refine At.put (k := 0) (n := 0) ?_) | (with_reducible refine At.far ?_ (by omega)) | (with_reducible refine At.new _ _ (by simp)) | (with_reducible refine At.alloc ?_ _) | (with_reducible refine At.later ?_ (by assumption)))); have hyk : At w3 c6 k2 n2 := (by repeat (first | (with_reducible assumption) | (with_reducible refine At.drew ?_) | (with_reducible refine At.put (k := 0) (n := 0) ?_) | (with_reducible refine At.far ?_ (by omega)) | (with_reducible refine At.new _ _ (by simp)) | (with_reducible refine At.alloc ?_ _) | (with_reducible refine At.later ?_ (by assumption)))))))
            all_goals go_wp2_with fail
            all_goals go_meet
            all_goals exact ⟨_, rfl, rfl, by repeat (first | (with_reducible assumption) | (with_reducible refine At.drew ?_) | (with_reducible refine At.put (k := 0) (n := 0) ?_) | (with_reducible refine At.far ?_ (by omega)) | (with_reducible refine At.new _ _ (by simp)) | (with_reducible refine At.alloc ?_ _) | (with_reducible refine At.later ?_ (by assumption))), by repeat (first | (with_reducible assumption) | (with_reducible refine At.drew ?_) | (with_reducible refine At.put (k := 0) (n := 0) ?_) | (with_reducible refine At.far ?_ (by omega)) | (with_reducible refine At.new _ _ (by simp)) | (with_reducible refine At.alloc ?_ _) | (with_reducible refine At.later ?_ (by assumption))), by repeat (first | (with_reducible assumption) | (with_reducible refine At.drew ?_) | (with_reducible refine At.put (k := 0) (n := 0) ?_) | (with_reducible refine At.far ?_ (by omega)) | (with_reducible refine At.new _ _ (by simp)) | (with_reducible refine At.alloc ?_ _) | (with_reducible refine At.later ?_ (by assumption))), by repeat (first | (with_reducible assumption) | (with_reducible refine At.drew ?_) | (with_reducible refine At.put (k := 0) (n := 0) ?_) | (with_reducible refine At.far ?_ (by omega)) | (with_reducible refine At.new _ _ (by simp)) | (with_reducible refine At.alloc ?_ _) | (with_reducible refine At.later ?_ (by assumption))), by repeat (first | (with_reducible assumption) | (with_reducible refine At.drew ?_) | (with_reducible refine At.put (k := 0) (n := 0) ?_) | (with_reducible refine At.far ?_ (by omega)) | (with_reducible refine At.new _ _ (by simp)) | (with_reducible refine At.alloc ?_ _) | (with_reducible refine At.later ?_ (by assumption))), by repeat (first | (with_reducible assumption) | (with_reducible refine At.drew ?_) | (with_reducible refine At.put (k := 0) (n := 0) ?_) | (with_reducible refine At.far ?_ (by omega)) | (with_reducible refine At.new _ _ (by simp)) | (with_reducible refine At.alloc ?_ _) | (with_reducible refine At.later ?_ (by assumption))), by repeat (first | (with_reducible assumption) | (with_reducible refine blw_alloc _ ?_) | (with_reducible refine Below.drew ?_) | (with_reducible exact Below.refl _ _) | (with_reducible refine blw_put _ (by omega) ?_) | (with_reducible refine blw_call ?_ (by assumption)))⟩
          case rest =>
            clear hbw hws lhx lhy lhz lhq lhd1 hx hy hz hq hd1
            obtain ⟨c13, rfl, rfl, hx, hy, hz, hq, hd1, he1, hbw⟩ := hcut
            have lhx := At.lt hx
            have lhy := At.lt hy
            have lhz := At.lt hz
            have lhq := At.lt hq
            have lhd1 := At.lt hd1
            have lhe1 := At.lt he1
            have hws := hbw.size
            go_wp2_with fail
            refine wp_region_fresh (by kernel_rfl) (by kernel_rfl) ?_
            repeat (first | go_big_quiet_skip | (go_big_quiet_want; (first | (go_big_quiet_op; go_big_quiet_on) | (apply quiet_load; exact rfl; exact rfl; (intro wq hw9; first | with_reducible exact At.later hz hw9 | with_reducible exact At.later hq hw9 | with_reducible exact At.later hd1 hw9 | with_reducible exact At.later he1 hw9); simp only [Act.put, List.setIfInBounds_toArray, List.set_cons_zero, List.set_cons_succ]; go_big_quiet_on) | (refine quiet_call1 (f := 26) (u := vv dk dn) (v := vv ek en) rfl rfl (run_call26 _) ?_ ?_; (intro wq hw9; exact (neg_at hdd hde wq).mono (fun _ _ hh => ⟨hh.1, blw_call hw9 hh.2⟩)); simp only [Act.put, List.setIfInBounds_toArray, List.set_cons_zero, List.set_cons_succ]; go_big_quiet_on) | (apply quiet_pure; (intro wq; go_simp; exact rfl); simp only [Act.put, List.setIfInBounds_toArray, List.set_cons_zero, List.set_cons_succ]; go_big_quiet_on))))
            refine wpQuiet_nil ?_
            intro w9 hb9
            all_goals go_wp2_with fail
            all_goals go_ret
            all_goals exact ⟨rfl, by repeat (first | (with_reducible assumption) | (with_reducible refine blw_alloc _ ?_) | (with_reducible refine Below.drew ?_) | (with_reducible exact Below.refl _ _) | (with_reducible refine blw_put _ (by omega) ?_) | (with_reducible refine blw_call ?_ (by assumption)))⟩

set_option maxHeartbeats 1600000 in
theorem signs_ff (a b k1 n1 k2 n2 pk pn qk qn dk dn ek en : Int) (ha : Hid (numV a = (k1, n1))) (hb : Hid (numV b = (k2, n2))) (h1 : Num k1 n1) (h2 : Num k2 n2)
    (hn1 : Num (negK k1 n1) (negN k1 n1)) (hn2 : Num (negK k2 n2) (negN k2 n2)) (hm : Hid (mulR k1 n1 k2 n2 = (pk, pn, false))) (hm2 : Hid (mulR (negK k1 n1) (negN k1 n1) k2 n2 = (qk, qn, false)))
    (hd : Hid (divR k1 n1 k2 n2 = (dk, dn, false))) (hd2 : Hid (divR k1 n1 (negK k2 n2) (negN k2 n2) = (ek, en, false)))  (w : World) :
    Calls Tryd.prog 8 #[.int .i64 a, .int .i64 b] w fun e w' => e = .returned (.bool true) ∧ Below w.heap.size w w' := by
  go_enter Tryd.func8, Tryd.ntmps8
  go_upto_region 3 with (first | (go_at_call 9; ((with_reducible refine (fit_any _).mono ?_); rintro e w1 ⟨rfl, hbf⟩)))
  go_cut [5, 6] (fun s5 s6 wx => ∃ c5 c6 : Nat, s5 = .pointer (some ⟨c5, 0, none⟩) ∧ s6 = .pointer (some ⟨c6, 0, none⟩) ∧ At wx c5 k1 n1 ∧ At wx c6 k2 n2 ∧ Below w.heap.size w wx)
  case first =>
    go_wp2_with (first | (go_at_call 10; ((with_reducible refine (numOf_at _ _ _ ha _).mono ?_); rintro e w' ⟨rfl, rfl⟩)) | (go_at_call 10; ((with_reducible refine (numOf_at _ _ _ hb _).mono ?_); rintro e w' ⟨rfl, rfl⟩)))
    go_meet
    exact ⟨_, _, rfl, rfl, by repeat (first | (with_reducible assumption) | (with_reducible refine At.drew ?_) | (with_reducible refine At.put (k := 0) (n := 0) ?_) | (with_reducible refine At.far ?_ (by omega)) | (with_reducible refine At.new _ _ (by simp)) | (with_reducible refine At.alloc ?_ _) | (with_reducible refine At.later ?_ (by assumption))), by repeat (first | (with_reducible assumption) | (with_reducible refine At.drew ?_) | (with_reducible refine At.put (k := 0) (n := 0) ?_) | (with_reducible refine At.far ?_ (by omega)) | (with_reducible refine At.new _ _ (by simp)) | (with_reducible refine At.alloc ?_ _) | (with_reducible refine At.later ?_ (by assumption))), by repeat (first | (with_reducible assumption) | (with_reducible refine blw_alloc _ ?_) | (with_reducible refine Below.drew ?_) | (with_reducible exact Below.refl _ _) | (with_reducible refine blw_put _ (by omega) ?_) | (with_reducible refine blw_call ?_ (by assumption)))⟩
  case rest =>
    obtain ⟨c5, c6, rfl, rfl, hx, hy, hbw⟩ := hcut
    have lhx := At.lt hx
    have lhy := At.lt hy
    have hws := hbw.size
    go_upto_region 4 with (fail)
    go_cut [7, 8] (fun s7 s8 wx => ∃ c7 : Nat, s7 = .pointer (some ⟨c7, 0, none⟩) ∧ s8 = .bool false ∧ At wx c5 k1 n1 ∧ At wx c6 k2 n2 ∧ At wx c7 pk pn ∧ Below w.heap.size w wx)
    case first =>
      go_wp2_with (first | (go_at_call 14; ((with_reducible refine (mul_at h1 h2 hm _).mono ?_); rintro e w2 ⟨rfl, hb2⟩)))
      go_meet
      exact ⟨_, rfl, rfl, by repeat (first | (with_reducible assumption) | (with_reducible refine At.drew ?_) | (with_reducible refine At.put (k := 0) (n := 0) ?_) | (with_reducible refine At.far ?_ (by omega)) | (with_reducible refine At.new _ _ (by simp)) | (with_reducible refine At.alloc ?_ _) | (with_reducible refine At.later ?_ (by assumption))), by repeat (first | (with_reducible assumption) | (with_reducible refine At.drew ?_) | (with_reducible refine At.put (k := 0) (n := 0) ?_) | (with_reducible refine At.far ?_ (by omega)) | (with_reducible refine At.new _ _ (by simp)) | (with_reducible refine At.alloc ?_ _) | (with_reducible refine At.later ?_ (by assumption))), by repeat (first | (with_reducible assumption) | (with_reducible refine At.drew ?_) | (with_reducible refine At.put (k := 0) (n := 0) ?_) | (with_reducible refine At.far ?_ (by omega)) | (with_reducible refine At.new _ _ (by simp)) | (with_reducible refine At.alloc ?_ _) | (with_reducible refine At.later ?_ (by assumption))), by repeat (first | (with_reducible assumption) | (with_reducible refine blw_alloc _ ?_) | (with_reducible refine Below.drew ?_) | (with_reducible exact Below.refl _ _) | (with_reducible refine blw_put _ (by omega) ?_) | (with_reducible refine blw_call ?_ (by assumption)))⟩
    case rest =>
      clear hbw hws lhx lhy hx hy
      obtain ⟨c7, rfl, rfl, hx, hy, hz, hbw⟩ := hcut
      have lhx := At.lt hx
      have lhy := At.lt hy
      have lhz := At.lt hz
      have hws := hbw.size
      go_upto_region 5 with (fail)
      go_cut [9, 10] (fun s9 s10 wy => ∃ c9 : Nat, s9 = .pointer (some ⟨c9, 0, none⟩) ∧ s10 = .bool false ∧ At wy c5 k1 n1 ∧ At wy c6 k2 n2 ∧ At wy c7 pk pn ∧ At wy c9 qk qn ∧ Below w.heap.size w wy)
      case first =>
        go_region_held3 (fun w' => At w' c5 k1 n1 ∧ At w' c6 k2 n2) ((refine ⟨?_, ?_⟩ <;> (repeat (first | (with_reducible assumption) | (with_reducible refine At.drew ?_) | (with_reducible refine At.put (k := 0) (n := 0) ?_) | (with_reducible refine At.far ?_ (by omega)) | (with_reducible refine At.new _ _ (by simp)) | (with_reducible refine At.alloc ?_ _) | (with_reducible refine At.later ?_ (by assumption))))))
          (first | (go_at_call 26; ((with_reducible refine (neg_any _ _ h1 _).mono ?_); rintro e w2 ⟨rfl, hb2⟩; have s2 := hb2.size; (try simp at s2); (first | (with_reducible have hbx := (At.new (W := wc) 0 0 rfl).drew.later hb2) | skip); have hxk : At w2 c5 k1 n1 := (by repeat (first | (with_reducible assumption) | (with_reducible refine At.drew ?_) | (with_reducible refine At.put (k := 0) (n := 0) ?_) | (with_reducible refine At.far ?_ (by omega)) | (with_reducible refine At.new _ _ (by simp)) | (with_reducible refine At.alloc ?_ _) | (with_reducible refine At.later ?_ (by assumption)))); have hyk : At w2 c6 k2 n2 := (by repeat (first | (with_reducible assumption) | (with_reducible refine At.drew ?_) | (with_reducible refine At.put (k := 0) (n := 0) ?_) | (with_reducible refine At.far ?_ (by omega)) | (with_reducible refine At.new _ _ (by simp)) | (with_reducible refine At.alloc ?_ _) | (with_reducible refine At.later ?_ (by assumption)))))) | (go_at_call 14; ((with_reducible refine (mul_at hn1 h2 hm2 _).mono ?_); rintro e w3 ⟨rfl, hb3⟩; have s3 := hb3.size; (try simp at s3); (first | (with_reducible have hbx := hbx.later hb3) | (with_reducible have hbx := (At.new (W := w2) 0 0 rfl).later hb3) | skip); have hxk : At w3 c5 k1 n1 := (by repeat (first | (with_reducible assumption) | (with_reducible refine At.drew ?_) | (with_reducible refine At.put (k := 0) (n := 0) ?_) | (with_reducible refine At.far ?_ (by omega)) | (with_reducible refine At.new _ _ (by simp)) | (with_reducible refine At.alloc ?_ _) | (with_reducible refine At.later ?_ (by assumption)))); have hyk : At w3 c6 k2 n2 := (by repeat (first | (with_reducible assumption) | (with_reducible refine At.drew ?_) | (with_reducible refine At.put (k := 0) (n := 0) ?_) | (with_reducible refine At.far ?_ (by omega)) | (with_reducible refine At.new _ _ (by simp)) | (with_reducible refine At.alloc ?_ _) | (with_reducible refine At.later ?_ (by assumption)))))))
        all_goals go_wp2_with fail
        all_goals go_meet
        all_goals exact ⟨_, rfl, rfl, by repeat (first | (with_reducible assumption) | (with_reducible refine At.drew ?_) | (with_reducible refine At.put (k := 0) (n := 0) ?_) | (with_reducible refine At.far ?_ (by omega)) | (with_reducible refine At.new _ _ (by simp)) | (with_reducible refine At.alloc ?_ _) | (with_reducible refine At.later ?_ (by assumption))), by repeat (first | (with_reducible assumption) | (with_reducible refine At.drew ?_) | (with_reducible refine At.put (k := 0) (n := 0) ?_) | (with_reducible refine At.far ?_ (by omega)) | (with_reducible refine At.new _ _ (by simp)) | (with_reducible refine At.alloc ?_ _) | (with_reducible refine At.later ?_ (by assumption))), by repeat (first | (with_reducible assumption) | (with_reducible refine At.drew ?_) | (with_reducible refine At.put (k := 0) (n := 0) ?_) | (with_reducible refine At.far ?_ (by omega)) | (with_reducible refine At.new _ _ (by simp)) | (with_reducible refine At.alloc ?_ _) | (with_reducible refine At.later ?_ (by assumption))), by repeat (first | (with_reducible assumption) | (with_reducible refine At.drew ?_) | (with_reducible refine At.put (k := 0) (n := 0) ?_) | (with_reducible refine At.far ?_ (by omega)) | (with_reducible refine At.new _ _ (by simp)) | (with_reducible refine At.alloc ?_ _) | (with_reducible refine At.later ?_ (by assumption))), by repeat (first | (with_reducible assumption) | (with_reducible refine blw_alloc _ ?_) | (with_reducible refine Below.drew ?_) | (with_reducible exact Below.refl _ _) | (with_reducible refine blw_put _ (by omega) ?_) | (with_reducible refine blw_call ?_ (by assumption)))⟩
      case rest =>
        clear hbw hws lhx lhy lhz hx hy hz
        obtain ⟨c9, rfl, rfl, hx, hy, hz, hq, hbw⟩ := hcut
        have lhx := At.lt hx
        have lhy := At.lt hy
        have lhz := At.lt hz
        have lhq := At.lt hq
        have hws := hbw.size
        go_upto_region 6 with (fail)
        go_cut [11, 12] (fun s11 s12 wy => ∃ c11 : Nat, s11 = .pointer (some ⟨c11, 0, none⟩) ∧ s12 = .bool false ∧ At wy c5 k1 n1 ∧ At wy c6 k2 n2 ∧ At wy c7 pk pn ∧ At wy c9 qk qn ∧ At wy c11 dk dn ∧ Below w.heap.size w wy)
        case first =>
          go_wp2_with (first | (go_at_call 15; ((with_reducible refine (div_at h1 h2 hd _).mono ?_); rintro e w2 ⟨rfl, hb2⟩)))
          go_meet
          exact ⟨_, rfl, rfl, by repeat (first | (with_reducible assumption) | (with_reducible refine At.drew ?_) | (with_reducible refine At.put (k := 0) (n := 0) ?_) | (with_reducible refine At.far ?_ (by omega)) | (with_reducible refine At.new _ _ (by simp)) | (with_reducible refine At.alloc ?_ _) | (with_reducible refine At.later ?_ (by assumption))), by repeat (first | (with_reducible assumption) | (with_reducible refine At.drew ?_) | (with_reducible refine At.put (k := 0) (n := 0) ?_) | (with_reducible refine At.far ?_ (by omega)) | (with_reducible refine At.new _ _ (by simp)) | (with_reducible refine At.alloc ?_ _) | (with_reducible refine At.later ?_ (by assumption))), by repeat (first | (with_reducible assumption) | (with_reducible refine At.drew ?_) | (with_reducible refine At.put (k := 0) (n := 0) ?_) | (with_reducible refine At.far ?_ (by omega)) | (with_reducible refine At.new _ _ (by simp)) | (with_reducible refine At.alloc ?_ _) | (with_reducible refine At.later ?_ (by assumption))), by repeat (first | (with_reducible assumption) | (with_reducible refine At.drew ?_) | (with_reducible refine At.put (k := 0) (n := 0) ?_) | (with_reducible refine At.far ?_ (by omega)) | (with_reducible refine At.new _ _ (by simp)) | (with_reducible refine At.alloc ?_ _) | (with_reducible refine At.later ?_ (by assumption))), by repeat (first | (with_reducible assumption) | (with_reducible refine At.drew ?_) | (with_reducible refine At.put (k := 0) (n := 0) ?_) | (with_reducible refine At.far ?_ (by omega)) | (with_reducible refine At.new _ _ (by simp)) | (with_reducible refine At.alloc ?_ _) | (with_reducible refine At.later ?_ (by assumption))), by repeat (first | (with_reducible assumption) | (with_reducible refine blw_alloc _ ?_) | (with_reducible refine Below.drew ?_) | (with_reducible exact Below.refl _ _) | (with_reducible refine blw_put _ (by omega) ?_) | (with_reducible refine blw_call ?_ (by assumption)))⟩
        case rest =>
          clear hbw hws lhx lhy lhz lhq hx hy hz hq
          obtain ⟨c11, rfl, rfl, hx, hy, hz, hq, hd1, hbw⟩ := hcut
          have lhx := At.lt hx
          have lhy := At.lt hy
          have lhz := At.lt hz
          have lhq := At.lt hq
          have lhd1 := At.lt hd1
          have hws := hbw.size
          go_upto_region 7 with (fail)
          go_cut [13, 14] (fun s13 s14 wy => ∃ c13 : Nat, s13 = .pointer (some ⟨c13, 0, none⟩) ∧ s14 = .bool false ∧ At wy c5 k1 n1 ∧ At wy c6 k2 n2 ∧ At wy c7 pk pn ∧ At wy c9 qk qn ∧ At wy c11 dk dn ∧ At wy c13 ek en ∧ Below w.heap.size w wy)
          case first =>
            go_region_held3 (fun w' => At w' c5 k1 n1 ∧ At w' c6 k2 n2) ((refine ⟨?_, ?_⟩ <;> (repeat (first | (with_reducible assumption) | (with_reducible refine At.drew ?_) | (with_reducible refine At.put (k := 0) (n := 0) ?_) | (with_reducible refine At.far ?_ (by omega)) | (with_reducible refine At.new _ _ (by simp)) | (with_reducible refine At.alloc ?_ _) | (with_reducible refine At.later ?_ (by assumption))))))
              (first | (go_at_call 26; ((with_reducible refine (neg_any _ _ h2 _).mono ?_); rintro e w2 ⟨rfl, hb2⟩; have s2 := hb2.size; (try simp at s2); (first | (with_reducible have hbx := (At.new (W := wc) 0 0 rfl).drew.later hb2) | skip); have hxk : At w2 c5 k1 n1 := (by repeat (first | (with_reducible assumption) | (with_reducible refine At.drew ?_) | (with_reducible refine At.put (k := 0) (n := 0) ?_) | (with_reducible refine At.far ?_ (by omega)) | (with_reducible refine At.new _ _ (by simp)) | (with_reducible refine At.alloc ?_ _) | (with_reducible refine At.later ?_ (by assumption)))); have hyk : At w2 c6 k2 n2 := (by repeat (first | (with_reducible assumption) | (with_reducible refine At.drew ?_) | (with_reducible refine At.put (k := 0) (n := 0) ?_) | (with_reducible refine At.far ?_ (by omega)) | (with_reducible refine At.new _ _ (by simp)) | (with_reducible refine At.alloc ?_ _) | (with_reducible refine At.later ?_ (by assumption)))))) | (go_at_call 15; ((with_reducible refine (div_at h1 hn2 hd2 _).mono ?_); rintro e w3 ⟨rfl, hb3⟩; have s3 := hb3.size; (try simp at s3); (first | (with_reducible have hbx := hbx.later hb3) | (with_reducible have hbx := (At.new (W := w2) 0 0 rfl).later hb3) | skip); have hxk : At w3 c5 k1 n1 := (by repeat (first | (with_reducible assumption) | (with_reducible refine At.drew ?_) | (with_reducible refine At.put (k := 0) (n := 0) ?_) | (with_reducible refine At.far ?_ (by omega)) | (with_reducible refine At.new _ _ (by simp)) | (with_reducible refine At.alloc ?_ _) | (with_reducible refine At.later ?_ (by assumption)))); have hyk : At w3 c6 k2 n2 := (by repeat (first | (with_reducible assumption) | (with_reducible refine At.drew ?_) | (with_reducible refine At.put (k := 0) (n := 0) ?_) | (with_reducible refine At.far ?_ (by omega)) | (with_reducible refine At.new _ _ (by simp)) | (with_reducible refine At.alloc ?_ _) | (with_reducible refine At.later ?_ (by assumption)))))))
            all_goals go_wp2_with fail
            all_goals go_meet
            all_goals exact ⟨_, rfl, rfl, by repeat (first | (with_reducible assumption) | (with_reducible refine At.drew ?_) | (with_reducible refine At.put (k := 0) (n := 0) ?_) | (with_reducible refine At.far ?_ (by omega)) | (with_reducible refine At.new _ _ (by simp)) | (with_reducible refine At.alloc ?_ _) | (with_reducible refine At.later ?_ (by assumption))), by repeat (first | (with_reducible assumption) | (with_reducible refine At.drew ?_) | (with_reducible refine At.put (k := 0) (n := 0) ?_) | (with_reducible refine At.far ?_ (by omega)) | (with_reducible refine At.new _ _ (by simp)) | (with_reducible refine At.alloc ?_ _) | (with_reducible refine At.later ?_ (by assumption))), by repeat (first | (with_reducible assumption) | (with_reducible refine At.drew ?_) | (with_reducible refine At.put (k := 0) (n := 0) ?_) | (with_reducible refine At.far ?_ (by omega)) | (with_reducible refine At.new _ _ (by simp)) | (with_reducible refine At.alloc ?_ _) | (with_reducible refine At.later ?_ (by assumption))), by repeat (first | (with_reducible assumption) | (with_reducible refine At.drew ?_) | (with_reducible refine At.put (k := 0) (n := 0) ?_) | (with_reducible refine At.far ?_ (by omega)) | (with_reducible refine At.new _ _ (by simp)) | (with_reducible refine At.alloc ?_ _) | (with_reducible refine At.later ?_ (by assumption))), by repeat (first | (with_reducible assumption) | (with_reducible refine At.drew ?_) | (with_reducible refine At.put (k := 0) (n := 0) ?_) | (with_reducible refine At.far ?_ (by omega)) | (with_reducible refine At.new _ _ (by simp)) | (with_reducible refine At.alloc ?_ _) | (with_reducible refine At.later ?_ (by assumption))), by repeat (first | (with_reducible assumption) | (with_reducible refine At.drew ?_) | (with_reducible refine At.put (k := 0) (n := 0) ?_) | (with_reducible refine At.far ?_ (by omega)) | (with_reducible refine At.new _ _ (by simp)) | (with_reducible refine At.alloc ?_ _) | (with_reducible refine At.later ?_ (by assumption))), by repeat (first | (with_reducible assumption) | (with_reducible refine blw_alloc _ ?_) | (with_reducible refine Below.drew ?_) | (with_reducible exact Below.refl _ _) | (with_reducible refine blw_put _ (by omega) ?_) | (with_reducible refine blw_call ?_ (by assumption)))⟩
          case rest =>
            clear hbw hws lhx lhy lhz lhq lhd1 hx hy hz hq hd1
            obtain ⟨c13, rfl, rfl, hx, hy, hz, hq, hd1, he1, hbw⟩ := hcut
            have lhx := At.lt hx
            have lhy := At.lt hy
            have lhz := At.lt hz
            have lhq := At.lt hq
            have lhd1 := At.lt hd1
            have lhe1 := At.lt he1
            have hws := hbw.size
            go_wp2_with fail
            refine wp_region_fresh (by kernel_rfl) (by kernel_rfl) ?_
            repeat (first | go_big_quiet_skip | (go_big_quiet_want; (first | (go_big_quiet_op; go_big_quiet_on) | (apply quiet_load; exact rfl; exact rfl; (intro wq hw9; first | with_reducible exact At.later hz hw9 | with_reducible exact At.later hq hw9 | with_reducible exact At.later hd1 hw9 | with_reducible exact At.later he1 hw9); simp only [Act.put, List.setIfInBounds_toArray, List.set_cons_zero, List.set_cons_succ]; go_big_quiet_on) | (apply quiet_pure; (intro wq; go_simp; exact rfl); simp only [Act.put, List.setIfInBounds_toArray, List.set_cons_zero, List.set_cons_succ]; go_big_quiet_on))))
            refine wpQuiet_nil ?_
            intro w9 hb9
            all_goals go_wp2_with fail
            all_goals go_ret
            all_goals exact ⟨rfl, by repeat (first | (with_reducible assumption) | (with_reducible refine blw_alloc _ ?_) | (with_reducible refine Below.drew ?_) | (with_reducible exact Below.refl _ _) | (with_reducible refine blw_put _ (by omega) ?_) | (with_reducible refine blw_call ?_ (by assumption)))⟩

theorem signs_all (a b : Int) (_ : (Lit.int .i64 a).wf = true) (_ : (Lit.int .i64 b).wf = true) (w : World) (_ : laidMetH Tryd.prog tabs w) :
    Calls Tryd.prog 8 #[.int .i64 a, .int .i64 b] w fun e w' => e = .returned (.bool true) ∧ Below w.heap.size w w' := by
  have h1 := numV_num a
  have h2 := numV_num b
  have hn1 := num_neg _ _ h1
  have hn2 := num_neg _ _ h2
  rcases mul_sign h1 h2 with ⟨pk, pn, hp, hm, hm2⟩ | ⟨hm, hm2⟩
  · rcases div_sign h1 h2 with ⟨dk, dn, hd, hd1, hd2⟩ | ⟨hd1, hd2⟩
    · exact signs_tt a b _ _ _ _ _ _ _ _ _ _ _ _ rfl rfl h1 h2 hn1 hn2 hm hm2 hd1 hd2 hp ⟨rfl, rfl⟩ hd ⟨rfl, rfl⟩ w
    · exact signs_tf a b _ _ _ _ _ _ _ _ _ _ _ _ rfl rfl h1 h2 hn1 hn2 hm hm2 hd1 hd2 hp ⟨rfl, rfl⟩ w
  · rcases div_sign h1 h2 with ⟨dk, dn, hd, hd1, hd2⟩ | ⟨hd1, hd2⟩
    · exact signs_ft a b _ _ _ _ _ _ _ _ _ _ _ _ rfl rfl h1 h2 hn1 hn2 hm hm2 hd1 hd2 hd ⟨rfl, rfl⟩ w
    · exact signs_ff a b _ _ _ _ _ _ _ _ _ _ _ _ rfl rfl h1 h2 hn1 hn2 hm hm2 hd1 hd2 w

section
set_option maxRecDepth 100000 in
theorem numSigns_lifted (os : Os) (started : os.Started) (H : Type) (enc : TypeId × Value → H) :
    ReturnsInHanded {} Tryd.checked os 8 .any (fun w args => (Rows.numSignsSpec.pre enc Tryd.prog Tryd.f8 [] false w args ∧ laidMetH Tryd.prog tabs w) ∧ sizedMet enc Tryd.prog Tryd.f8 (OpenSpec.ofChange Rows.numSignsSpec) false w args)
      (Rows.numSignsSpec.post enc Tryd.prog Tryd.f8 false true false false) := by
  refine returnsInHanded_of_change_and (C := Tryd.checked) (X := fun w _ => laidMetH Tryd.prog tabs w) (fun _ _ _ hh h => h.of_heap hh) own started (by kernel_rfl) Tryd.func8
    (ChangeSpec.witness_shaped (enc := enc) (C := Tryd.checked) (os := os) (X := fun w _ => laidMetH Tryd.prog tabs w) false (World.doorLaid Tryd.prog 400 os) #[.int .i64 0, .int .i64 0] 8 rfl (World.shaped_of_RefB (by kernel_rfl) (by kernel_rfl)) (by kernel_rfl) (by kernel_rfl) (by kernel_rfl) (door_met os _)) ?_
  intro W base args ds gs before hval0 hW _ _ hL _
  have hval : ∀ (j : Nat) t v, Tryd.f8.params[j]? = some t → args[j]? = some v → Value.okWide Tryd.prog W .any base t v := hval0
  have hW' := hW
  obtain ⟨p, q, hA0, hV, rfl, hfz, hnd⟩ := hW
  have hA : DataW.TrodAll enc Tryd.prog W 0 (fun _ => true) true Tryd.f8.params.toList args.toList ds p := hA0
  rw [Tryd.params8] at hA hval
  obtain ⟨v0, vs0, d0, ds0, p0, q0, hargs, rfl, rfl, h0, r0⟩ := trodAll_cons hA
  obtain ⟨v1, vs1, d1, ds1, p1, q1, rfl, rfl, rfl, h1, r1⟩ := trodAll_cons r0
  obtain ⟨rfl, rfl, rfl⟩ := trodAll_nil r1
  obtain rfl : args = #[v0, v1] := by cases args; simp_all
  obtain ⟨rfl, rfl⟩ := trodVars_none hV
  obtain ⟨a0, rfl, rfl, rfl, w0⟩ := open_int Tryd.underlying2 (hval 0 2 v0 rfl rfl) h0
  obtain ⟨a1, rfl, rfl, rfl, w1⟩ := open_int Tryd.underlying2 (hval 1 2 v1 rfl rfl) h1
  clear hA0 hval0
  simp only [List.append_nil] at hW'
  refine (signs_all a0 a1 w0 w1 W hL).mono fun e W' ⟨he, hg⟩ => ?_
  subst he
  exact ⟨_, rfl, law_post hW' hg rfl rfl rfl (trodAll_cons_mk (shut_int Tryd.underlying2 w0) (trodAll_cons_mk (shut_int Tryd.underlying2 w1) trodAll_mk0))⟩

theorem numSigns_said : Rows.NumSignsSaid :=
  OpenClaim.holds_of_wide 8 Tryd.f8 rfl rfl rfl rfl rfl rfl rfl ⟨rfl, rfl, rfl, rfl, rfl⟩ rfl rfl rfl rfl rfl (by kernel_rfl) Tryd.func8 (by kernel_rfl)
    (of_decide_eq_true (by kernel_rfl)) (by unfold Func.isWrapper; first | (rw [if_pos (by decide +kernel)]; kernel_rfl) | (rw [if_neg (by decide +kernel)]; exact ⟨rfl, rfl⟩))
    (fun os started H enc _ => numSigns_lifted os started H enc)

/-- The tied card: for every input NumSigns returns true. -/
theorem numSigns_holds : Rows.NumSignsCardSaid :=
  Claim7.holds_tied_plain_at .later [] [.data, .data, .data] true (true, "4f3b660b2015560120ddffd10400e03a48c63fafadd340cf872e1ac63a8be49c") false
    numSigns_said (fun _ h => by cases h) (by kernel_rfl) (fun _ h => by cases h) numSigns_row_tie rfl ⟨rfl, rfl⟩ (by kernel_rfl) rfl
    (fun f fn hf hfn => by
      obtain rfl : f = 8 := Option.some.inj ((show Tryd.prog.funcNamed "ossuary/ossuarylaw01.NumSigns" = some 8 by kernel_rfl).symm.trans hf) |>.symm
      obtain rfl : fn = Tryd.f8 := (Option.some.inj (Tryd.func8.symm.trans hfn)).symm
      exact ⟨by kernel_rfl, fun j t ht => by
        rw [Tryd.params8] at ht
        have hm : t ∈ [2] := by
          have := Array.mem_of_getElem? ht
          simp at this
          simp [this]
        have hall : ([2].all fun u => !Tryd.prog.wantsStandIn u) = true := by kernel_rfl
        exact (show Tryd.prog.wantsStandIn t = false by simpa using List.all_eq_true.1 hall t hm)⟩)
    (by kernel_rfl)
#print axioms numSigns_holds
end
end Go.Proofs.YtgeaecljfmbleaaDoor
