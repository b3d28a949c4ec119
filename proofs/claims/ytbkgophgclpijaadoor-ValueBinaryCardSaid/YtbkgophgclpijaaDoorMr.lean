/- The texts of numbers, and how the reference holds two numbers against one another. -/
import Derived.Test.YtbkgophgclpijaaDoorMp
import Derived.Test.YtbkgophgclpijaaDoorShelf
import Derived.Lib.AppendIntMem
import Derived.Lib.LaidTab
import Derived.Lib.ItoaLen
namespace Go.Proofs.YtbkgophgclpijaaDoor.M
open Go.RowKit

/-- The table of the powers of ten reads as it was laid, now and behind whatever only adds memory. -/
def Tb (w : World) : Prop := Lib.TabBelow Tryd.prog w.heap.size w "internal/strconv.uint64pow10" .u64 Lib.pow10Tab
theorem Tb.on {w w1 : World} (h : Tb w) (hb : Below w.heap.size w w1) : Tb w1 := fun w' h' => h w' (hb.trans (h'.mono hb.size))
theorem Tb.now {w : World} (h : Tb w) : Lib.TabIs Tryd.prog w "internal/strconv.uint64pow10" .u64 Lib.pow10Tab := h w (Below.refl _ _)
theorem Tb.at {w w1 : World} (h : Tb w) (hb : Below w.heap.size w w1) : Lib.TabIs Tryd.prog w1 "internal/strconv.uint64pow10" .u64 Lib.pow10Tab := (h.on hb).now

theorem fmt_b (n : Int) (h0 : -9007199254740991 ≤ n) (h1 : n ≤ 9007199254740991) (w : World) (hT : Lib.TabIs Tryd.prog w "internal/strconv.uint64pow10" .u64 Lib.pow10Tab) :
    Calls Tryd.prog 68 #[.int .i64 n, .int .i64 10] w fun e w' => e = .returned (.string ⟨(Lib.itoa n).toArray⟩) ∧ Below w.heap.size w w' :=
  (Tryd.strconv_FormatInt_10 n (by omega) (by omega) w hT).mono fun _ _ ⟨he, k, os, hw⟩ => ⟨he, hw ▸ Lib.below_grow _ w (Nat.le_refl _) k os⟩
theorem itoa_b (n : Int) (h0 : 0 ≤ n) (h1 : n ≤ 9007199254740991) (w : World) (hT : Lib.TabIs Tryd.prog w "internal/strconv.uint64pow10" .u64 Lib.pow10Tab) :
    Calls Tryd.prog 69 #[.int .i64 n] w fun e w' => e = .returned (.string ⟨(Lib.itoa n).toArray⟩) ∧ Below w.heap.size w w' :=
  (Tryd.strconv_Itoa n (by omega) (by omega) w hT).mono fun _ _ ⟨he, k, os, hw⟩ => ⟨he, hw ▸ Lib.below_grow _ w (Nat.le_refl _) k os⟩

/-- A number's text. -/
def txt (k n : Int) : ByteArray := if k = 4 then ⟨#[78, 97, 78]⟩ else if k = 5 then (if n < 0 then ⟨#[45, 73, 110, 102, 105, 110, 105, 116, 121]⟩ else ⟨#[73, 110, 102, 105, 110, 105, 116, 121]⟩) else if k = 6 then ⟨#[48]⟩ else ⟨(Lib.itoa n).toArray⟩
theorem text_int (n : Int) (h0 : -9007199254740991 ≤ n) (h1 : n ≤ 9007199254740991) (w : World) (hT : Tb w) :
    Calls Tryd.prog 51 #[vv 3 n] w fun e w' => e = .returned (.string ⟨(Lib.itoa n).toArray⟩) ∧ Below w.heap.size w w' := by
  have hT2 : Lib.TabIs Tryd.prog (w.alloc (bx 3 n)) "internal/strconv.uint64pow10" .u64 Lib.pow10Tab := hT.at (blw_alloc _ (Below.refl _ _))
  have hc := Lib.hid (fmt_b n h0 h1 _ hT2)
  clear hT2
  go_enter Tryd.func51, Tryd.ntmps51
  go_wp2_with (go_at_call 68; ((with_reducible refine (hc.out).mono ?_); rintro e w1 ⟨rfl, hb1⟩))
  go_ret
  exact ⟨rfl, by repeat (first | (with_reducible assumption) | (with_reducible refine blw_alloc _ ?_) | (with_reducible exact Below.refl _ _) | (with_reducible refine blw_call ?_ (by assumption)))⟩
theorem text_any {k n : Int} (h : Num k n) (w : World) (hT : Tb w) : Calls Tryd.prog 51 #[vv k n] w fun e w' => e = .returned (.string (txt k n)) ∧ Below w.heap.size w w' := by
  have other : ∀ (t : ByteArray) , (Calls Tryd.prog 51 #[vv k n] w fun e w' => e = .returned (.string t) ∧ w.alloc (bx k n) = w') → Calls Tryd.prog 51 #[vv k n] w fun e w' => e = .returned (.string t) ∧ Below w.heap.size w w' :=
    fun t hc => hc.mono fun _ _ hh => ⟨hh.1, hh.2 ▸ blw_alloc _ (Below.refl _ _)⟩
  rcases h with ⟨rfl, rfl⟩ | ⟨rfl, rfl⟩ | ⟨rfl, rfl⟩ | ⟨rfl, rfl⟩ | ⟨rfl, h1, h2⟩
  · refine other ⟨#[78, 97, 78]⟩ ?_; clear other
    go_enter Tryd.func51, Tryd.ntmps51
    go_wp2
    go_ret
    exact ⟨rfl, rfl⟩
  · refine other ⟨#[73, 110, 102, 105, 110, 105, 116, 121]⟩ ?_; clear other
    go_enter Tryd.func51, Tryd.ntmps51
    go_wp2
    go_ret
    exact ⟨rfl, rfl⟩
  · refine other ⟨#[45, 73, 110, 102, 105, 110, 105, 116, 121]⟩ ?_; clear other
    go_enter Tryd.func51, Tryd.ntmps51
    go_wp2
    go_ret
    exact ⟨rfl, rfl⟩
  · exact other ⟨#[48]⟩ (text_nz w)
  · exact text_int n h1 h2 w hT

theorem app_nil (l : List UInt8) : (⟨#[]⟩ : ByteArray) ++ ⟨l.toArray⟩ = ⟨l.toArray⟩ := by
  apply ByteArray.ext
  simp
theorem app_minus (l : List UInt8) : (⟨#[45]⟩ : ByteArray) ++ ⟨l.toArray⟩ = ⟨(45 :: l).toArray⟩ := by
  apply ByteArray.ext
  simp
theorem itoa_minus (s : Int) (h : 0 < s) : Lib.itoa (-s) = 45 :: Lib.itoa s := by
  unfold Lib.itoa
  rw [if_pos (by omega), if_neg (by omega)]
  have e : (-s).natAbs = s.toNat := by omega
  rw [e]
theorem rtext_nan (w : World) : Calls Tryd.prog 52 #[nv 110 false 0] w fun e w' => e = .returned (.string ⟨#[78, 97, 78]⟩) ∧ Below w.heap.size w w' := by
  go_enter Tryd.func52, Tryd.ntmps52
  go_wp2
  go_ret
  exact ⟨rfl, blw_alloc _ (Below.refl _ _)⟩
theorem rtext_inf (w : World) : Calls Tryd.prog 52 #[nv 105 false 0] w fun e w' => e = .returned (.string ⟨#[73, 110, 102, 105, 110, 105, 116, 121]⟩) ∧ Below w.heap.size w w' := by
  go_enter Tryd.func52, Tryd.ntmps52
  go_wp2
  go_ret
  exact ⟨rfl, blw_alloc _ (Below.refl _ _)⟩
theorem rtext_minf (w : World) : Calls Tryd.prog 52 #[nv 105 true 0] w fun e w' => e = .returned (.string ⟨#[45, 73, 110, 102, 105, 110, 105, 116, 121]⟩) ∧ Below w.heap.size w w' := by
  go_enter Tryd.func52, Tryd.ntmps52
  go_wp2
  go_ret
  exact ⟨rfl, blw_alloc _ (Below.refl _ _)⟩
theorem rtext_pos (s : Int) (h0 : 0 ≤ s) (h1 : s ≤ 9007199254740991) (w : World) (hT : Tb w) :
    Calls Tryd.prog 52 #[nv 119 false s] w fun e w' => e = .returned (.string ⟨(Lib.itoa s).toArray⟩) ∧ Below w.heap.size w w' := by
  have hT2 : Lib.TabIs Tryd.prog (w.alloc (.cells #[.int .u8 119, .bool false, .int .i64 s] 73)) "internal/strconv.uint64pow10" .u64 Lib.pow10Tab := hT.at (blw_alloc _ (Below.refl _ _))
  have hc := Lib.hid (itoa_b s h0 h1 _ hT2)
  have hl := Lib.itoa_length_le s (by omega) (by omega)
  clear hT2
  go_enter Tryd.func52, Tryd.ntmps52
  go_wp2_with (go_at_call 69; ((with_reducible refine (hc.out).mono ?_); rintro e w1 ⟨rfl, hb1⟩))
  go_ret
  exact ⟨congrArg (fun b => Ending.returned (.string b)) (app_nil (Lib.itoa s)), by repeat (first | (with_reducible assumption) | (with_reducible refine blw_alloc _ ?_) | (with_reducible exact Below.refl _ _) | (with_reducible refine blw_call ?_ (by assumption)))⟩
theorem rtext_nz (w : World) (hT : Tb w) : Calls Tryd.prog 52 #[nv 119 true 0] w fun e w' => e = .returned (.string ⟨#[48]⟩) ∧ Below w.heap.size w w' := by
  have hT2 : Lib.TabIs Tryd.prog (w.alloc (.cells #[.int .u8 119, .bool true, .int .i64 0] 73)) "internal/strconv.uint64pow10" .u64 Lib.pow10Tab := hT.at (blw_alloc _ (Below.refl _ _))
  have e0 : (⟨(Lib.itoa 0).toArray⟩ : ByteArray) = ⟨#[48]⟩ := by unfold Lib.itoa Lib.decDigits; rfl
  have hc0 := itoa_b 0 (by omega) (by omega) _ hT2
  rw [e0] at hc0
  have hc := Lib.hid hc0
  clear hT2 hc0 e0
  go_enter Tryd.func52, Tryd.ntmps52
  go_wp2_with (go_at_call 69; ((with_reducible refine (hc.out).mono ?_); rintro e w1 ⟨rfl, hb1⟩))
  go_ret
  exact ⟨rfl, by repeat (first | (with_reducible assumption) | (with_reducible refine blw_alloc _ ?_) | (with_reducible exact Below.refl _ _) | (with_reducible refine blw_call ?_ (by assumption)))⟩
theorem rtext_neg (s : Int) (h0 : 0 < s) (h1 : s ≤ 9007199254740991) (hz : (s != 0) = true) (w : World) (hT : Tb w) :
    Calls Tryd.prog 52 #[nv 119 true s] w fun e w' => e = .returned (.string ⟨(Lib.itoa (-s)).toArray⟩) ∧ Below w.heap.size w w' := by
  have hT2 : Lib.TabIs Tryd.prog (w.alloc (.cells #[.int .u8 119, .bool true, .int .i64 s] 73)) "internal/strconv.uint64pow10" .u64 Lib.pow10Tab := hT.at (blw_alloc _ (Below.refl _ _))
  have hc := Lib.hid (itoa_b s (by omega) h1 _ hT2)
  have hl := Lib.itoa_length_le s (by omega) (by omega)
  clear hT2
  rw [itoa_minus s h0]
  go_enter Tryd.func52, Tryd.ntmps52
  go_wp2_with (go_at_call 69; ((with_reducible refine (hc.out).mono ?_); rintro e w1 ⟨rfl, hb1⟩))
  go_ret
  exact ⟨congrArg (fun b => Ending.returned (.string b)) (app_minus (Lib.itoa s)), by repeat (first | (with_reducible assumption) | (with_reducible refine blw_alloc _ ?_) | (with_reducible exact Below.refl _ _) | (with_reducible refine blw_call ?_ (by assumption)))⟩
theorem rtext_any {k n : Int} (h : Num k n) (w : World) (hT : Tb w) : Calls Tryd.prog 52 #[nvN k n] w fun e w' => e = .returned (.string (txt k n)) ∧ Below w.heap.size w w' := by
  rcases h with ⟨rfl, rfl⟩ | ⟨rfl, rfl⟩ | ⟨rfl, rfl⟩ | ⟨rfl, rfl⟩ | ⟨rfl, h1, h2⟩
  · exact rtext_nan w
  · exact rtext_inf w
  · exact rtext_minf w
  · exact rtext_nz w hT
  · have e : txt 3 n = ⟨(Lib.itoa n).toArray⟩ := rfl
    rw [nv_int, e]
    by_cases hn : n < 0
    · rw [neg_lt n hn, mg_lt n hn]
      have hv := rtext_neg (-n) (by omega) (by omega) (by simp; omega) w hT
      rw [Int.neg_neg] at hv
      exact hv
    · rw [neg_ge n (by omega), mg_ge n (by omega)]
      exact rtext_pos n (by omega) h2 w hT

/-- The reference's place of a number, and how it holds two against one another. -/
theorem rrank_any {k n : Int} (h : Num k n) (h4 : k ≠ 4) (w : World) : Calls Tryd.prog 65 #[nvN k n] w fun e w' => e = .returned (.int .i64 (rk k n)) ∧ Below w.heap.size w w' := by
  have go : ∀ (κ s r : Int) (m : Bool), nvN k n = nv κ m s → rk k n = r → (Calls Tryd.prog 65 #[nv κ m s] w fun e w' => e = .returned (.int .i64 r) ∧ Below w.heap.size w w') →
      Calls Tryd.prog 65 #[nvN k n] w fun e w' => e = .returned (.int .i64 (rk k n)) ∧ Below w.heap.size w w' := by
    intro κ s r m e1 e2 hc
    rw [e1, e2]
    exact hc
  rcases h with ⟨rfl, rfl⟩ | ⟨rfl, rfl⟩ | ⟨rfl, rfl⟩ | ⟨rfl, rfl⟩ | ⟨rfl, h1, h2⟩
  · exact absurd rfl h4
  · refine go 105 0 9007199254740992 false rfl rfl ?_; clear go
    go_enter Tryd.func65, Tryd.ntmps65
    go_wp2
    go_ret
    exact ⟨rfl, blw_alloc _ (Below.refl _ _)⟩
  · refine go 105 0 (-9007199254740992) true rfl rfl ?_; clear go
    go_enter Tryd.func65, Tryd.ntmps65
    go_wp2
    go_ret
    exact ⟨rfl, blw_alloc _ (Below.refl _ _)⟩
  · refine go 119 0 0 true rfl rfl ?_; clear go
    go_enter Tryd.func65, Tryd.ntmps65
    go_wp2
    go_ret
    exact ⟨rfl, blw_alloc _ (Below.refl _ _)⟩
  · by_cases hn : n < 0
    · refine go 119 (-n) n true (by rw [nv_int, neg_lt n hn, mg_lt n hn]) rfl ?_; clear go
      have e : - -n = n := Int.neg_neg n
      go_enter Tryd.func65, Tryd.ntmps65
      go_wp2
      go_ret
      exact ⟨rfl, blw_alloc _ (Below.refl _ _)⟩
    · refine go 119 n n false (by rw [nv_int, neg_ge n (by omega), mg_ge n (by omega)]) rfl ?_; clear go
      go_enter Tryd.func65, Tryd.ntmps65
      go_wp2
      go_ret
      exact ⟨rfl, blw_alloc _ (Below.refl _ _)⟩
theorem run_call41 (u : Value) (w : World) : (callFunc 65 #[u]).run Tryd.prog w = .ok (.enter 65 #[u]) w := by kernel_rfl
set_option maxHeartbeats 800000 in
theorem rless_lt (k1 n1 k2 n2 : Int) (h1 : Num k1 n1) (h2 : Num k2 n2) (g1 : k1 ≠ 4) (g2 : k2 ≠ 4) (_hl : rk k1 n1 < rk k2 n2) (w : World) :
    Calls Tryd.prog 45 #[nvN k1 n1, nvN k2 n2] w fun e w' => e = .returned (.int .i64 (-1)) ∧ Below w.heap.size w w' := by
  have r1 := rk_not g1
  have r2 := rk_not g2
  have hA : Rt ((w.alloc (.cells #[.int .u8 (rK k1), .bool (negB k1 n1), .int .i64 (rS k1 n1)] 73)).alloc (.cells #[.int .u8 (rK k2), .bool (negB k2 n2), .int .i64 (rS k2 n2)] 73)) w.heap.size (rK k1) (negB k1 n1) (rS k1 n1) := (At3.new _ _ _ _ rfl).alloc _
  have hB : Rt ((w.alloc (.cells #[.int .u8 (rK k1), .bool (negB k1 n1), .int .i64 (rS k1 n1)] 73)).alloc (.cells #[.int .u8 (rK k2), .bool (negB k2 n2), .int .i64 (rS k2 n2)] 73)) (w.heap.size + 1) (rK k2) (negB k2 n2) (rS k2 n2) := At3.new _ _ _ _ (by simp)
  go_enter Tryd.func45, Tryd.ntmps45
  go_wp2_with fail
  refine wp_region_fresh (by kernel_rfl) (by kernel_rfl) ?_
  repeat (first | go_big_quiet_skip | (go_big_quiet_want; (first | (go_big_quiet_op; go_big_quiet_on) | (apply quiet_load27; exact rfl; exact rfl; (intro wq hw9; first | with_reducible exact At3.later hA hw9 | with_reducible exact At3.later hB hw9); simp only [Act.put, List.setIfInBounds_toArray, List.set_cons_zero, List.set_cons_succ]; go_big_quiet_on) | (refine quiet_call1 (f := 65) (u := nvN k1 n1) (v := .int .i64 (rk k1 n1)) rfl rfl (run_call41 _) ?_ ?_; (intro wq hw9; exact (rrank_any h1 g1 wq).mono (fun _ _ hh => ⟨hh.1, blw_call hw9 hh.2⟩)); simp only [Act.put, List.setIfInBounds_toArray, List.set_cons_zero, List.set_cons_succ]; go_big_quiet_on) | (refine quiet_call1 (f := 65) (u := nvN k2 n2) (v := .int .i64 (rk k2 n2)) rfl rfl (run_call41 _) ?_ ?_; (intro wq hw9; exact (rrank_any h2 g2 wq).mono (fun _ _ hh => ⟨hh.1, blw_call hw9 hh.2⟩)); simp only [Act.put, List.setIfInBounds_toArray, List.set_cons_zero, List.set_cons_succ]; go_big_quiet_on) | (apply quiet_pure; (intro wq; go_simp; exact rfl); simp only [Act.put, List.setIfInBounds_toArray, List.set_cons_zero, List.set_cons_succ]; go_big_quiet_on))))
  refine wpQuiet_nil ?_
  intro w9 hb9
  go_wp2_with fail
  go_ret
  exact ⟨rfl, by repeat (first | (with_reducible assumption) | (with_reducible refine blw_alloc _ ?_) | (with_reducible refine Below.drew ?_) | (with_reducible exact Below.refl _ _) | (with_reducible refine blw_call ?_ (by assumption)))⟩
set_option maxHeartbeats 800000 in
theorem rless_gt (k1 n1 k2 n2 : Int) (h1 : Num k1 n1) (h2 : Num k2 n2) (g1 : k1 ≠ 4) (g2 : k2 ≠ 4) (_hl : rk k2 n2 < rk k1 n1) (w : World) :
    Calls Tryd.prog 45 #[nvN k1 n1, nvN k2 n2] w fun e w' => e = .returned (.int .i64 1) ∧ Below w.heap.size w w' := by
  have r1 := rk_not g1
  have r2 := rk_not g2
  have hA : Rt ((w.alloc (.cells #[.int .u8 (rK k1), .bool (negB k1 n1), .int .i64 (rS k1 n1)] 73)).alloc (.cells #[.int .u8 (rK k2), .bool (negB k2 n2), .int .i64 (rS k2 n2)] 73)) w.heap.size (rK k1) (negB k1 n1) (rS k1 n1) := (At3.new _ _ _ _ rfl).alloc _
  have hB : Rt ((w.alloc (.cells #[.int .u8 (rK k1), .bool (negB k1 n1), .int .i64 (rS k1 n1)] 73)).alloc (.cells #[.int .u8 (rK k2), .bool (negB k2 n2), .int .i64 (rS k2 n2)] 73)) (w.heap.size + 1) (rK k2) (negB k2 n2) (rS k2 n2) := At3.new _ _ _ _ (by simp)
  go_enter Tryd.func45, Tryd.ntmps45
  go_wp2_with fail
  refine wp_region_fresh (by kernel_rfl) (by kernel_rfl) ?_
  repeat (first | go_big_quiet_skip | (go_big_quiet_want; (first | (go_big_quiet_op; go_big_quiet_on) | (apply quiet_load27; exact rfl; exact rfl; (intro wq hw9; first | with_reducible exact At3.later hA hw9 | with_reducible exact At3.later hB hw9); simp only [Act.put, List.setIfInBounds_toArray, List.set_cons_zero, List.set_cons_succ]; go_big_quiet_on) | (refine quiet_call1 (f := 65) (u := nvN k1 n1) (v := .int .i64 (rk k1 n1)) rfl rfl (run_call41 _) ?_ ?_; (intro wq hw9; exact (rrank_any h1 g1 wq).mono (fun _ _ hh => ⟨hh.1, blw_call hw9 hh.2⟩)); simp only [Act.put, List.setIfInBounds_toArray, List.set_cons_zero, List.set_cons_succ]; go_big_quiet_on) | (refine quiet_call1 (f := 65) (u := nvN k2 n2) (v := .int .i64 (rk k2 n2)) rfl rfl (run_call41 _) ?_ ?_; (intro wq hw9; exact (rrank_any h2 g2 wq).mono (fun _ _ hh => ⟨hh.1, blw_call hw9 hh.2⟩)); simp only [Act.put, List.setIfInBounds_toArray, List.set_cons_zero, List.set_cons_succ]; go_big_quiet_on) | (apply quiet_pure; (intro wq; go_simp; exact rfl); simp only [Act.put, List.setIfInBounds_toArray, List.set_cons_zero, List.set_cons_succ]; go_big_quiet_on))))
  refine wpQuiet_nil ?_
  intro w9 hb9
  go_wp2_with fail
  go_ret
  exact ⟨rfl, by repeat (first | (with_reducible assumption) | (with_reducible refine blw_alloc _ ?_) | (with_reducible refine Below.drew ?_) | (with_reducible exact Below.refl _ _) | (with_reducible refine blw_call ?_ (by assumption)))⟩
set_option maxHeartbeats 800000 in
theorem rless_eq (k1 n1 k2 n2 : Int) (h1 : Num k1 n1) (h2 : Num k2 n2) (g1 : k1 ≠ 4) (g2 : k2 ≠ 4) (_hl : rk k1 n1 = rk k2 n2) (w : World) :
    Calls Tryd.prog 45 #[nvN k1 n1, nvN k2 n2] w fun e w' => e = .returned (.int .i64 0) ∧ Below w.heap.size w w' := by
  have hl1 : ¬ rk k1 n1 < rk k2 n2 := by omega
  have hl2 : ¬ rk k2 n2 < rk k1 n1 := by omega
  have hq1 : decide (rk k1 n1 < rk k2 n2) = false := decide_eq_false hl1
  have hq2 : decide (rk k2 n2 < rk k1 n1) = false := decide_eq_false hl2
  clear _hl
  have r1 := rk_not g1
  have r2 := rk_not g2
  have hA : Rt ((w.alloc (.cells #[.int .u8 (rK k1), .bool (negB k1 n1), .int .i64 (rS k1 n1)] 73)).alloc (.cells #[.int .u8 (rK k2), .bool (negB k2 n2), .int .i64 (rS k2 n2)] 73)) w.heap.size (rK k1) (negB k1 n1) (rS k1 n1) := (At3.new _ _ _ _ rfl).alloc _
  have hB : Rt ((w.alloc (.cells #[.int .u8 (rK k1), .bool (negB k1 n1), .int .i64 (rS k1 n1)] 73)).alloc (.cells #[.int .u8 (rK k2), .bool (negB k2 n2), .int .i64 (rS k2 n2)] 73)) (w.heap.size + 1) (rK k2) (negB k2 n2) (rS k2 n2) := At3.new _ _ _ _ (by simp)
  go_enter Tryd.func45, Tryd.ntmps45
  go_wp2_with fail
  refine wp_region_fresh (by kernel_rfl) (by kernel_rfl) ?_
  repeat (first | go_big_quiet_skip | (go_big_quiet_want; (first | (go_big_quiet_op; go_big_quiet_on) | (apply quiet_load27; exact rfl; exact rfl; (intro wq hw9; first | with_reducible exact At3.later hA hw9 | with_reducible exact At3.later hB hw9); simp only [Act.put, List.setIfInBounds_toArray, List.set_cons_zero, List.set_cons_succ]; go_big_quiet_on) | (refine quiet_call1 (f := 65) (u := nvN k1 n1) (v := .int .i64 (rk k1 n1)) rfl rfl (run_call41 _) ?_ ?_; (intro wq hw9; exact (rrank_any h1 g1 wq).mono (fun _ _ hh => ⟨hh.1, blw_call hw9 hh.2⟩)); simp only [Act.put, List.setIfInBounds_toArray, List.set_cons_zero, List.set_cons_succ]; go_big_quiet_on) | (refine quiet_call1 (f := 65) (u := nvN k2 n2) (v := .int .i64 (rk k2 n2)) rfl rfl (run_call41 _) ?_ ?_; (intro wq hw9; exact (rrank_any h2 g2 wq).mono (fun _ _ hh => ⟨hh.1, blw_call hw9 hh.2⟩)); simp only [Act.put, List.setIfInBounds_toArray, List.set_cons_zero, List.set_cons_succ]; go_big_quiet_on) | (apply quiet_pure; (intro wq; go_simp; exact rfl); simp only [Act.put, List.setIfInBounds_toArray, List.set_cons_zero, List.set_cons_succ]; go_big_quiet_on))))
  refine wpQuiet_nil ?_
  intro w9 hb9
  go_wp2_with fail
  go_ret
  exact ⟨rfl, by repeat (first | (with_reducible assumption) | (with_reducible refine blw_alloc _ ?_) | (with_reducible refine Below.drew ?_) | (with_reducible exact Below.refl _ _) | (with_reducible refine blw_call ?_ (by assumption)))⟩
theorem rless_n1 (k2 : Int) (m2 : Bool) (s2 : Int) (w : World) : Calls Tryd.prog 45 #[nv 110 false 0, nv k2 m2 s2] w fun e w' => e = .returned (.int .i64 2) ∧ Below w.heap.size w w' := by
  go_enter Tryd.func45, Tryd.ntmps45
  go_wp2
  go_ret
  exact ⟨rfl, blw_alloc _ (blw_alloc _ (Below.refl _ _))⟩
theorem rless_n2 (k1 : Int) (m1 : Bool) (s1 : Int) (_h : (k1 == 110) = false) (w : World) : Calls Tryd.prog 45 #[nv k1 m1 s1, nv 110 false 0] w fun e w' => e = .returned (.int .i64 2) ∧ Below w.heap.size w w' := by
  go_enter Tryd.func45, Tryd.ntmps45
  go_wp2
  go_ret
  exact ⟨rfl, blw_alloc _ (blw_alloc _ (Below.refl _ _))⟩
theorem neg_twice {k n : Int} (h : Num k n) : negK (negK k n) (negN k n) = k ∧ negN (negK k n) (negN k n) = n := by
  rcases h with ⟨rfl, rfl⟩ | ⟨rfl, rfl⟩ | ⟨rfl, rfl⟩ | ⟨rfl, rfl⟩ | ⟨rfl, h1, h2⟩
  · exact ⟨rfl, rfl⟩
  · exact ⟨rfl, rfl⟩
  · exact ⟨rfl, rfl⟩
  · exact ⟨rfl, rfl⟩
  · by_cases h0 : n = 0
    · subst h0; exact ⟨rfl, rfl⟩
    · have e1 : negK 3 n = 3 := by simp [negK, h0]
      have e2 : negN 3 n = -n := by simp [negN]
      have e3 : negK 3 (-n) = 3 := by unfold negK; rw [if_neg (by omega), if_pos rfl, if_neg (by omega)]
      have e4 : negN 3 (-n) = n := by unfold negN; rw [if_pos rfl, Int.neg_neg]
      rw [e1, e2]
      exact ⟨e3, e4⟩
theorem is_b {k n : Int} (h : Num k n) (w : World) : Calls Tryd.prog 46 #[vv k n] w fun e w' => e = .returned (.bool true) ∧ Below w.heap.size w w' :=
  (is_any k n h w).mono fun _ _ hh => ⟨hh.1, hh.2 ▸ blw_alloc _ (Below.refl _ _)⟩
theorem run_call22 (u v : Value) (w : World) : (callFunc 47 #[u, v]).run Tryd.prog w = .ok (.enter 47 #[u, v]) w := by kernel_rfl
theorem run_call23 (u : Value) (w : World) : (callFunc 51 #[u]).run Tryd.prog w = .ok (.enter 51 #[u]) w := by kernel_rfl
theorem run_call24 (u : Value) (w : World) : (callFunc 52 #[u]).run Tryd.prog w = .ok (.enter 52 #[u]) w := by kernel_rfl
theorem run_call25 (u : Value) (w : World) : (callFunc 46 #[u]).run Tryd.prog w = .ok (.enter 46 #[u]) w := by kernel_rfl
/-- How the reference holds two numbers against one another. -/
def cmpR (k1 n1 k2 n2 : Int) : Int := if k1 = 4 ∨ k2 = 4 then 2 else if rk k1 n1 < rk k2 n2 then -1 else if rk k2 n2 < rk k1 n1 then 1 else 0
theorem rless_at {k1 n1 k2 n2 c : Int} (h1 : Num k1 n1) (h2 : Num k2 n2) (hc : Hid (cmpR k1 n1 k2 n2 = c)) (w : World) :
    Calls Tryd.prog 45 #[nvN k1 n1, nvN k2 n2] w fun e w' => e = .returned (.int .i64 c) ∧ Below w.heap.size w w' := by
  have hh := hc.out
  subst hh
  unfold cmpR
  by_cases a4 : k1 = 4
  · rw [if_pos (.inl a4), nv_nan h1 a4]; exact rless_n1 _ _ _ w
  by_cases b4 : k2 = 4
  · rw [if_pos (.inr b4), nv_nan h2 b4]; exact rless_n2 _ _ _ (rk_not a4) w
  rw [if_neg (by simp [a4, b4])]
  by_cases hl : rk k1 n1 < rk k2 n2
  · rw [if_pos hl]; exact rless_lt k1 n1 k2 n2 h1 h2 a4 b4 hl w
  by_cases hg : rk k2 n2 < rk k1 n1
  · rw [if_neg hl, if_pos hg]; exact rless_gt k1 n1 k2 n2 h1 h2 a4 b4 hg w
  rw [if_neg hl, if_neg hg]
  exact rless_eq k1 n1 k2 n2 h1 h2 a4 b4 (by omega) w
end Go.Proofs.YtbkgophgclpijaaDoor.M
