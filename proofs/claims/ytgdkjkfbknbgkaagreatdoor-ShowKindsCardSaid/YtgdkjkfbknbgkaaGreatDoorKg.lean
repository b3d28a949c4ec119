/- The reference: values, their texts. -/
import Derived.Test.YtgdkjkfbknbgkaaGreatDoorShelf
import Derived.Test.YtgdkjkfbknbgkaaGreatDoorKf
import Derived.Test.YtgdkjkfbknbgkaaGreatDoorKe
import Derived.Shelf.Unicode.Decode
import Derived.WalkKit
import Derived.WalkSpells
import Derived.WalkLawsBesides
import Derived.Below
import Derived.BigQuiet
import Derived.IntWalk
import Derived.Deep.RegionHeld3
import Derived.Outline
import Derived.Deep.DeepCutAuto
import Derived.Deep.QuietTactic
import Derived.RegionTactic
import Derived.BigRegion
import Derived.Lib.SlBytesConst
import Derived.Lib.AppendIntMem
import Derived.Lib.LaidTab
import Derived.Lib.ItoaLen
import Derived.Deep.AppendLies
import Derived.Deep.RegionLaw
import Derived.Lib.ItoaNum
import Derived.Lib.ItoaMem
namespace Go.Proofs
open Go.Shelf
open Go.RowKit Go.Lib in
theorem Tryz.utf8_DecodeRuneInString_ascii (s : ByteArray) (x : UInt8) (w : World) (h0 : s.data.toList[0]? = some x) (hx : x.toNat < 128) :
    Calls Tryz.prog 111 #[.string s] w fun e w' => e = .returned (.tuple #[.int .i32 x.toNat, .int .i64 1]) ∧ w' = w := Any.utf8_DecodeRuneInString_ascii Tryz.lays197 s x w h0 hx
end Go.Proofs
namespace Go.Proofs.YtgdkjkfbknbgkaaGreatDoor.M
open Go Go.RowKit
attribute [local go_sem] Oper.semAt_some

/-- A value of package api with an empty text. -/
abbrev vv (k n : Int) : Value := .agg #[.int .i64 k, .int .i64 n, .string ⟨#[]⟩]
/-- The block in which such a value lies. -/
abbrev bx (k n : Int) : Obj := .cells #[.int .i64 k, .int .i64 n, .string ⟨#[]⟩] 30
def negB (k n : Int) : Bool := k == 6 || decide (n < 0)
/-- A number: NaN, an infinity, -0, or a whole number within the bound. -/
def Num (k n : Int) : Prop := k = 4 ∧ n = 0 ∨ k = 5 ∧ n = 1 ∨ k = 5 ∧ n = -1 ∨ k = 6 ∧ n = 0 ∨ k = 3 ∧ -9007199254740991 ≤ n ∧ n ≤ 9007199254740991
theorem is_any (k n : Int) (h : Num k n) (w : World) :
    Calls Tryz.prog 94 #[vv k n] w fun e w' => e = .returned (.bool true) ∧ w.alloc (bx k n) = w' := by
  rcases h with ⟨rfl, rfl⟩ | ⟨rfl, rfl⟩ | ⟨rfl, rfl⟩ | ⟨rfl, rfl⟩ | ⟨rfl, h1, h2⟩
  all_goals
    go_enter Tryz.func94, Tryz.ntmps94
    go_wp2
    go_ret
    exact ⟨rfl, rfl⟩
/-- How great a number is. -/
def mg (n : Int) : Int := n.natAbs
theorem blw_alloc {w w' : World} (o : Obj) (h : Below w.heap.size w w') : Below w.heap.size w (w'.alloc o) := h.alloc h.size o
theorem blw_call {w w1 w2 : World} (h : Below w.heap.size w w1) (h2 : Below w1.heap.size w1 w2) : Below w.heap.size w w2 := h.trans (h2.mono h.size)
theorem text_nz (w : World) : Calls Tryz.prog 95 #[vv 6 0] w fun e w' => e = .returned (.string ⟨#[48]⟩) ∧ w.alloc (bx 6 0) = w' := by
  go_enter Tryz.func95, Tryz.ntmps95
  go_wp2
  go_ret
  exact ⟨rfl, rfl⟩
theorem blw_drewN {B : Nat} {w w' : World} (h : Below B w w') (n : Nat) : Below B w (w'.drewN n) := ⟨h.os, h.tape, h.output, h.size, h.block⟩
theorem blw_put {w w' : World} {b o : Nat} (u : Value) (hb : w.heap.size ≤ b) (h : Below w.heap.size w w') : Below w.heap.size w (w'.setCell ⟨b, o, none⟩ u) := h.setCell hb u
/-- A number of the reference: its kind, whether it has a sign, how great it is. -/
abbrev nv (k : Int) (m : Bool) (s : Int) : Value := .agg #[.int .u8 k, .bool m, .int .i64 s]
theorem of_nan  (w : World) :
    Calls Tryz.prog 101 #[vv 4 0] w fun e w' => e = .returned (nv 110 false 0) ∧ Below w.heap.size w w' := by
  go_enter Tryz.func101, Tryz.ntmps101
  go_wp2
  all_goals exact bodyPost_ret (v := nv 110 false 0) (by simp [results, Tryz.results101, go_sem]) rfl ⟨rfl, by repeat (first | (with_reducible refine blw_alloc _ ?_) | (with_reducible refine Below.drew ?_) | (with_reducible refine blw_put _ (by omega) ?_) | (with_reducible refine blw_drewN ?_ _) | (with_reducible exact Below.refl _ _))⟩
theorem of_inf  (w : World) :
    Calls Tryz.prog 101 #[vv 5 1] w fun e w' => e = .returned (nv 105 false 0) ∧ Below w.heap.size w w' := by
  go_enter Tryz.func101, Tryz.ntmps101
  go_wp2
  all_goals exact bodyPost_ret (v := nv 105 false 0) (by simp [results, Tryz.results101, go_sem]) rfl ⟨rfl, by repeat (first | (with_reducible refine blw_alloc _ ?_) | (with_reducible refine Below.drew ?_) | (with_reducible refine blw_put _ (by omega) ?_) | (with_reducible refine blw_drewN ?_ _) | (with_reducible exact Below.refl _ _))⟩
theorem of_minf  (w : World) :
    Calls Tryz.prog 101 #[vv 5 (-1)] w fun e w' => e = .returned (nv 105 true 0) ∧ Below w.heap.size w w' := by
  go_enter Tryz.func101, Tryz.ntmps101
  go_wp2
  all_goals exact bodyPost_ret (v := nv 105 true 0) (by simp [results, Tryz.results101, go_sem]) rfl ⟨rfl, by repeat (first | (with_reducible refine blw_alloc _ ?_) | (with_reducible refine Below.drew ?_) | (with_reducible refine blw_put _ (by omega) ?_) | (with_reducible refine blw_drewN ?_ _) | (with_reducible exact Below.refl _ _))⟩
theorem of_nz  (w : World) :
    Calls Tryz.prog 101 #[vv 6 0] w fun e w' => e = .returned (nv 119 true 0) ∧ Below w.heap.size w w' := by
  go_enter Tryz.func101, Tryz.ntmps101
  go_wp2
  all_goals exact bodyPost_ret (v := nv 119 true 0) (by simp [results, Tryz.results101, go_sem]) rfl ⟨rfl, by repeat (first | (with_reducible refine blw_alloc _ ?_) | (with_reducible refine Below.drew ?_) | (with_reducible refine blw_put _ (by omega) ?_) | (with_reducible refine blw_drewN ?_ _) | (with_reducible exact Below.refl _ _))⟩
theorem of_neg (n : Int) (_h : n < 0) (_g : -9007199254740991 ≤ n) (w : World) :
    Calls Tryz.prog 101 #[vv 3 n] w fun e w' => e = .returned (nv 119 true (-n)) ∧ Below w.heap.size w w' := by
  go_enter Tryz.func101, Tryz.ntmps101
  go_wp2
  all_goals exact bodyPost_ret (v := nv 119 true (-n)) (by simp [results, Tryz.results101, go_sem]) rfl ⟨rfl, by repeat (first | (with_reducible refine blw_alloc _ ?_) | (with_reducible refine Below.drew ?_) | (with_reducible refine blw_put _ (by omega) ?_) | (with_reducible refine blw_drewN ?_ _) | (with_reducible exact Below.refl _ _))⟩
theorem of_pos (n : Int) (_h : 0 ≤ n) (w : World) :
    Calls Tryz.prog 101 #[vv 3 n] w fun e w' => e = .returned (nv 119 false n) ∧ Below w.heap.size w w' := by
  go_enter Tryz.func101, Tryz.ntmps101
  go_wp2
  all_goals exact bodyPost_ret (v := nv 119 false n) (by simp [results, Tryz.results101, go_sem]) rfl ⟨rfl, by repeat (first | (with_reducible refine blw_alloc _ ?_) | (with_reducible refine Below.drew ?_) | (with_reducible refine blw_put _ (by omega) ?_) | (with_reducible refine blw_drewN ?_ _) | (with_reducible exact Below.refl _ _))⟩
def rK (k : Int) : Int := if k = 4 then 110 else if k = 5 then 105 else 119
def rS (k n : Int) : Int := if k = 5 then 0 else mg n
/-- A number as the reference has it. -/
abbrev nvN (k n : Int) : Value := nv (rK k) (negB k n) (rS k n)
theorem nv_int (n : Int) : nvN 3 n = nv 119 (negB 3 n) (mg n) := rfl
theorem neg_lt (n : Int) (h : n < 0) : negB 3 n = true := by show decide (n < 0) = true; exact decide_eq_true h
theorem neg_ge (n : Int) (h : 0 ≤ n) : negB 3 n = false := by show decide (n < 0) = false; exact decide_eq_false (by omega)
theorem mg_lt (n : Int) (h : n < 0) : mg n = -n := by unfold mg; omega
theorem mg_ge (n : Int) (h : 0 ≤ n) : mg n = n := by unfold mg; omega
theorem of_any {k n : Int} (h : Num k n) (w : World) : Calls Tryz.prog 101 #[vv k n] w fun e w' => e = .returned (nvN k n) ∧ Below w.heap.size w w' := by
  rcases h with ⟨rfl, rfl⟩ | ⟨rfl, rfl⟩ | ⟨rfl, rfl⟩ | ⟨rfl, rfl⟩ | ⟨rfl, h1, h2⟩
  · exact of_nan w
  · exact of_inf w
  · exact of_minf w
  · exact of_nz w
  · rw [nv_int]
    by_cases hn : n < 0
    · rw [neg_lt n hn, mg_lt n hn]; exact of_neg n hn h1 w
    · rw [neg_ge n (by omega), mg_ge n (by omega)]; exact of_pos n (by omega) w
/-- The table of the powers of ten reads as it was laid, now and behind whatever only adds memory. -/
def Tb (w : World) : Prop := Lib.TabBelow Tryz.prog w.heap.size w "internal/strconv.uint64pow10" .u64 Lib.pow10Tab
theorem Tb.on {w w1 : World} (h : Tb w) (hb : Below w.heap.size w w1) : Tb w1 := fun w' h' => h w' (hb.trans (h'.mono hb.size))
theorem Tb.now {w : World} (h : Tb w) : Lib.TabIs Tryz.prog w "internal/strconv.uint64pow10" .u64 Lib.pow10Tab := h w (Below.refl _ _)
theorem Tb.at {w w1 : World} (h : Tb w) (hb : Below w.heap.size w w1) : Lib.TabIs Tryz.prog w1 "internal/strconv.uint64pow10" .u64 Lib.pow10Tab := (h.on hb).now
theorem fmt_b (n : Int) (h0 : -9007199254740991 ≤ n) (h1 : n ≤ 9007199254740991) (w : World) (hT : Lib.TabIs Tryz.prog w "internal/strconv.uint64pow10" .u64 Lib.pow10Tab) :
    Calls Tryz.prog 109 #[.int .i64 n, .int .i64 10] w fun e w' => e = .returned (.string ⟨(Lib.itoa n).toArray⟩) ∧ Below w.heap.size w w' :=
  (Tryz.strconv_FormatInt_10 n (by omega) (by omega) w hT).mono fun _ _ ⟨he, k, os, hw⟩ => ⟨he, hw ▸ Lib.below_grow _ w (Nat.le_refl _) k os⟩
theorem itoa_b (n : Int) (h0 : 0 ≤ n) (h1 : n ≤ 9007199254740991) (w : World) (hT : Lib.TabIs Tryz.prog w "internal/strconv.uint64pow10" .u64 Lib.pow10Tab) :
    Calls Tryz.prog 112 #[.int .i64 n] w fun e w' => e = .returned (.string ⟨(Lib.itoa n).toArray⟩) ∧ Below w.heap.size w w' :=
  (Tryz.strconv_Itoa n (by omega) (by omega) w hT).mono fun _ _ ⟨he, k, os, hw⟩ => ⟨he, hw ▸ Lib.below_grow _ w (Nat.le_refl _) k os⟩
/-- A number's text. -/
def txt (k n : Int) : ByteArray := if k = 4 then ⟨#[78, 97, 78]⟩ else if k = 5 then (if n < 0 then ⟨#[45, 73, 110, 102, 105, 110, 105, 116, 121]⟩ else ⟨#[73, 110, 102, 105, 110, 105, 116, 121]⟩) else if k = 6 then ⟨#[48]⟩ else ⟨(Lib.itoa n).toArray⟩
theorem text_int (n : Int) (h0 : -9007199254740991 ≤ n) (h1 : n ≤ 9007199254740991) (w : World) (hT : Tb w) :
    Calls Tryz.prog 95 #[vv 3 n] w fun e w' => e = .returned (.string ⟨(Lib.itoa n).toArray⟩) ∧ Below w.heap.size w w' := by
  have hT2 : Lib.TabIs Tryz.prog (w.alloc (bx 3 n)) "internal/strconv.uint64pow10" .u64 Lib.pow10Tab := hT.at (blw_alloc _ (Below.refl _ _))
  have hc := Lib.hid (fmt_b n h0 h1 _ hT2)
  clear hT2
  go_enter Tryz.func95, Tryz.ntmps95
  go_wp2_with (go_at_call 109; ((with_reducible refine (hc.out).mono ?_); rintro e w1 ⟨rfl, hb1⟩))
  go_ret
  exact ⟨rfl, by repeat (first | (with_reducible assumption) | (with_reducible refine blw_alloc _ ?_) | (with_reducible exact Below.refl _ _) | (with_reducible refine blw_call ?_ (by assumption)))⟩
theorem text_any {k n : Int} (h : Num k n) (w : World) (hT : Tb w) : Calls Tryz.prog 95 #[vv k n] w fun e w' => e = .returned (.string (txt k n)) ∧ Below w.heap.size w w' := by
  have other : ∀ (t : ByteArray) , (Calls Tryz.prog 95 #[vv k n] w fun e w' => e = .returned (.string t) ∧ w.alloc (bx k n) = w') → Calls Tryz.prog 95 #[vv k n] w fun e w' => e = .returned (.string t) ∧ Below w.heap.size w w' :=
    fun t hc => hc.mono fun _ _ hh => ⟨hh.1, hh.2 ▸ blw_alloc _ (Below.refl _ _)⟩
  rcases h with ⟨rfl, rfl⟩ | ⟨rfl, rfl⟩ | ⟨rfl, rfl⟩ | ⟨rfl, rfl⟩ | ⟨rfl, h1, h2⟩
  · refine other ⟨#[78, 97, 78]⟩ ?_; clear other
    go_enter Tryz.func95, Tryz.ntmps95
    go_wp2
    go_ret
    exact ⟨rfl, rfl⟩
  · refine other ⟨#[73, 110, 102, 105, 110, 105, 116, 121]⟩ ?_; clear other
    go_enter Tryz.func95, Tryz.ntmps95
    go_wp2
    go_ret
    exact ⟨rfl, rfl⟩
  · refine other ⟨#[45, 73, 110, 102, 105, 110, 105, 116, 121]⟩ ?_; clear other
    go_enter Tryz.func95, Tryz.ntmps95
    go_wp2
    go_ret
    exact ⟨rfl, rfl⟩
  · exact other ⟨#[48]⟩ (text_nz w)
  · exact text_int n h1 h2 w hT
theorem app_nil (l : List UInt8) : (⟨#[]⟩ : ByteArray) ++ ⟨l.toArray⟩ = ⟨l.toArray⟩ := by
  apply ByteArray.ext
  simp
theorem app_minus (l : List UInt8) : (⟨#[45]⟩ : ByteArray) ++ ⟨l.toArray⟩ = ⟨(45 :: l).toArray⟩ := by
  apply ByteArray.ext
  simp
theorem itoa_minus (s : Int) (h : 0 < s) : Lib.itoa (-s) = 45 :: Lib.itoa s := by
  unfold Lib.itoa
  rw [if_pos (by omega), if_neg (by omega)]
  have e : (-s).natAbs = s.toNat := by omega
  rw [e]
theorem rtext_nan (w : World) : Calls Tryz.prog 100 #[nv 110 false 0] w fun e w' => e = .returned (.string ⟨#[78, 97, 78]⟩) ∧ Below w.heap.size w w' := by
  go_enter Tryz.func100, Tryz.ntmps100
  go_wp2
  go_ret
  exact ⟨rfl, blw_alloc _ (Below.refl _ _)⟩
theorem rtext_inf (w : World) : Calls Tryz.prog 100 #[nv 105 false 0] w fun e w' => e = .returned (.string ⟨#[73, 110, 102, 105, 110, 105, 116, 121]⟩) ∧ Below w.heap.size w w' := by
  go_enter Tryz.func100, Tryz.ntmps100
  go_wp2
  go_ret
  exact ⟨rfl, blw_alloc _ (Below.refl _ _)⟩
theorem rtext_minf (w : World) : Calls Tryz.prog 100 #[nv 105 true 0] w fun e w' => e = .returned (.string ⟨#[45, 73, 110, 102, 105, 110, 105, 116, 121]⟩) ∧ Below w.heap.size w w' := by
  go_enter Tryz.func100, Tryz.ntmps100
  go_wp2
  go_ret
  exact ⟨rfl, blw_alloc _ (Below.refl _ _)⟩
theorem rtext_pos (s : Int) (h0 : 0 ≤ s) (h1 : s ≤ 9007199254740991) (w : World) (hT : Tb w) :
    Calls Tryz.prog 100 #[nv 119 false s] w fun e w' => e = .returned (.string ⟨(Lib.itoa s).toArray⟩) ∧ Below w.heap.size w w' := by
  have hT2 : Lib.TabIs Tryz.prog (w.alloc (.cells #[.int .u8 119, .bool false, .int .i64 s] 184)) "internal/strconv.uint64pow10" .u64 Lib.pow10Tab := hT.at (blw_alloc _ (Below.refl _ _))
  have hc := Lib.hid (itoa_b s h0 h1 _ hT2)
  have hl := Lib.itoa_length_le s (by omega) (by omega)
  clear hT2
  go_enter Tryz.func100, Tryz.ntmps100
  go_wp2_with (go_at_call 112; ((with_reducible refine (hc.out).mono ?_); rintro e w1 ⟨rfl, hb1⟩))
  go_ret
  exact ⟨congrArg (fun b => Ending.returned (.string b)) (app_nil (Lib.itoa s)), by repeat (first | (with_reducible assumption) | (with_reducible refine blw_alloc _ ?_) | (with_reducible exact Below.refl _ _) | (with_reducible refine blw_call ?_ (by assumption)))⟩
theorem rtext_nz (w : World) (hT : Tb w) : Calls Tryz.prog 100 #[nv 119 true 0] w fun e w' => e = .returned (.string ⟨#[48]⟩) ∧ Below w.heap.size w w' := by
  have hT2 : Lib.TabIs Tryz.prog (w.alloc (.cells #[.int .u8 119, .bool true, .int .i64 0] 184)) "internal/strconv.uint64pow10" .u64 Lib.pow10Tab := hT.at (blw_alloc _ (Below.refl _ _))
  have e0 : (⟨(Lib.itoa 0).toArray⟩ : ByteArray) = ⟨#[48]⟩ := by unfold Lib.itoa Lib.decDigits; rfl
  have hc0 := itoa_b 0 (by omega) (by omega) _ hT2
  rw [e0] at hc0
  have hc := Lib.hid hc0
  clear hT2 hc0 e0
  go_enter Tryz.func100, Tryz.ntmps100
  go_wp2_with (go_at_call 112; ((with_reducible refine (hc.out).mono ?_); rintro e w1 ⟨rfl, hb1⟩))
  go_ret
  exact ⟨rfl, by repeat (first | (with_reducible assumption) | (with_reducible refine blw_alloc _ ?_) | (with_reducible exact Below.refl _ _) | (with_reducible refine blw_call ?_ (by assumption)))⟩
theorem rtext_neg (s : Int) (h0 : 0 < s) (h1 : s ≤ 9007199254740991) (hz : (s != 0) = true) (w : World) (hT : Tb w) :
    Calls Tryz.prog 100 #[nv 119 true s] w fun e w' => e = .returned (.string ⟨(Lib.itoa (-s)).toArray⟩) ∧ Below w.heap.size w w' := by
  have hT2 : Lib.TabIs Tryz.prog (w.alloc (.cells #[.int .u8 119, .bool true, .int .i64 s] 184)) "internal/strconv.uint64pow10" .u64 Lib.pow10Tab := hT.at (blw_alloc _ (Below.refl _ _))
  have hc := Lib.hid (itoa_b s (by omega) h1 _ hT2)
  have hl := Lib.itoa_length_le s (by omega) (by omega)
  clear hT2
  rw [itoa_minus s h0]
  go_enter Tryz.func100, Tryz.ntmps100
  go_wp2_with (go_at_call 112; ((with_reducible refine (hc.out).mono ?_); rintro e w1 ⟨rfl, hb1⟩))
  go_ret
  exact ⟨congrArg (fun b => Ending.returned (.string b)) (app_minus (Lib.itoa s)), by repeat (first | (with_reducible assumption) | (with_reducible refine blw_alloc _ ?_) | (with_reducible exact Below.refl _ _) | (with_reducible refine blw_call ?_ (by assumption)))⟩
theorem rtext_any {k n : Int} (h : Num k n) (w : World) (hT : Tb w) : Calls Tryz.prog 100 #[nvN k n] w fun e w' => e = .returned (.string (txt k n)) ∧ Below w.heap.size w w' := by
  rcases h with ⟨rfl, rfl⟩ | ⟨rfl, rfl⟩ | ⟨rfl, rfl⟩ | ⟨rfl, rfl⟩ | ⟨rfl, h1, h2⟩
  · exact rtext_nan w
  · exact rtext_inf w
  · exact rtext_minf w
  · exact rtext_nz w hT
  · have e : txt 3 n = ⟨(Lib.itoa n).toArray⟩ := rfl
    rw [nv_int, e]
    by_cases hn : n < 0
    · rw [neg_lt n hn, mg_lt n hn]
      have hv := rtext_neg (-n) (by omega) (by omega) (by simp; omega) w hT
      rw [Int.neg_neg] at hv
      exact hv
    · rw [neg_ge n (by omega), mg_ge n (by omega)]
      exact rtext_pos n (by omega) h2 w hT
end Go.Proofs.YtgdkjkfbknbgkaaGreatDoor.M
namespace Go.Proofs.YtgdkjkfbknbgkaaGreatDoor
open Go Go.RowKit
attribute [local go_sem] Oper.semAt_some

/-- A value as one may be. -/
def WV (k n : Int) (s : ByteArray) : Prop :=
  (k = 0 ∨ k = 1 ∨ k = 10) ∧ n = 0 ∧ s = W.e0 ∨ k = 2 ∧ (n = 0 ∨ n = 1) ∧ s = W.e0 ∨ M.Num k n ∧ s = W.e0 ∨
  k = 7 ∧ n = 0 ∧ (∃ l : List Nat, (∀ u ∈ l, u < 65536) ∧ l.length ≤ 2000 ∧ s = ⟨(l.flatMap W.u2).toArray⟩) ∨ (k = 8 ∨ k = 9) ∧ 1 ≤ n ∧ n ≤ 64 ∧ s = W.e0
theorem not_num {k : Int} (hk : ¬ (3 ≤ k ∧ k ≤ 6)) : (k == 3) = false ∧ (k == 4) = false ∧ (k == 5) = false ∧ (k == 6) = false := by
  refine ⟨?_, ?_, ?_, ?_⟩ <;> (rw [Bool.eq_false_iff]; simp; omega)
/-- The ways of a value as one may be. -/
theorem wv_ways {k n : Int} {s : ByteArray} (h : WV k n s) :
    (k = 0 ∧ n = 0 ∧ s = W.e0) ∨ (k = 1 ∧ n = 0 ∧ s = W.e0) ∨ (k = 10 ∧ n = 0 ∧ s = W.e0) ∨ (k = 2 ∧ n = 0 ∧ s = W.e0) ∨ (k = 2 ∧ n = 1 ∧ s = W.e0) ∨
    (k = 4 ∧ n = 0 ∧ s = W.e0) ∨ (k = 5 ∧ n = 1 ∧ s = W.e0) ∨ (k = 5 ∧ n = -1 ∧ s = W.e0) ∨ (k = 6 ∧ n = 0 ∧ s = W.e0) ∨ (k = 3 ∧ (-9007199254740991 ≤ n ∧ n ≤ 9007199254740991) ∧ s = W.e0) ∨
    (k = 7 ∧ n = 0 ∧ ∃ l : List Nat, (∀ u ∈ l, u < 65536) ∧ l.length ≤ 2000 ∧ s = ⟨(l.flatMap W.u2).toArray⟩) ∨ (k = 8 ∧ (1 ≤ n ∧ n ≤ 64) ∧ s = W.e0) ∨ (k = 9 ∧ (1 ≤ n ∧ n ≤ 64) ∧ s = W.e0) := by
  rcases h with ⟨h1 | h1 | h1, h2, h3⟩ | ⟨h1, h2 | h2, h3⟩ | ⟨h1, h2⟩ | ⟨h1, h2, h3⟩ | ⟨h1 | h1, h2, h3, h4⟩
  · exact .inl ⟨h1, h2, h3⟩
  · exact .inr (.inl ⟨h1, h2, h3⟩)
  · exact .inr (.inr (.inl ⟨h1, h2, h3⟩))
  · exact .inr (.inr (.inr (.inl ⟨h1, h2, h3⟩)))
  · exact .inr (.inr (.inr (.inr (.inl ⟨h1, h2, h3⟩))))
  · rcases h1 with ⟨h1, h3⟩ | ⟨h1, h3⟩ | ⟨h1, h3⟩ | ⟨h1, h3⟩ | ⟨h1, h3, h4⟩
    · exact .inr (.inr (.inr (.inr (.inr (.inl ⟨h1, h3, h2⟩)))))
    · exact .inr (.inr (.inr (.inr (.inr (.inr (.inl ⟨h1, h3, h2⟩))))))
    · exact .inr (.inr (.inr (.inr (.inr (.inr (.inr (.inl ⟨h1, h3, h2⟩)))))))
    · exact .inr (.inr (.inr (.inr (.inr (.inr (.inr (.inr (.inl ⟨h1, h3, h2⟩))))))))
    · exact .inr (.inr (.inr (.inr (.inr (.inr (.inr (.inr (.inr (.inl ⟨h1, ⟨h3, h4⟩, h2⟩)))))))))
  · exact .inr (.inr (.inr (.inr (.inr (.inr (.inr (.inr (.inr (.inr (.inl ⟨h1, h2, h3⟩))))))))))
  · exact .inr (.inr (.inr (.inr (.inr (.inr (.inr (.inr (.inr (.inr (.inr (.inl ⟨h1, ⟨h2, h3⟩, h4⟩)))))))))))
  · exact .inr (.inr (.inr (.inr (.inr (.inr (.inr (.inr (.inr (.inr (.inr (.inr ⟨h1, ⟨h2, h3⟩, h4⟩)))))))))))
theorem is_no_eq (k n : Int) (s : ByteArray) (hk : ¬ (3 ≤ k ∧ k ≤ 6)) (w : World) : Calls Tryz.prog 94 #[W.V k n s] w fun e w' => e = .returned (.bool false) ∧ w.alloc (.cells #[.int .i64 k, .int .i64 n, .string s] 30) = w' := by
  obtain ⟨h3, h4, h5, h6⟩ := not_num hk
  clear hk
  go_enter Tryz.func94, Tryz.ntmps94
  go_wp2
  go_ret
  exact ⟨rfl, rfl⟩
/-- The signs' numbers. -/
def codes (s : ByteArray) : List Nat := s.data.toList.map (·.toNat)
theorem codes_length (s : ByteArray) : (codes s).length = s.size := by simp [codes]
def Ascii (s : ByteArray) : Prop := ∀ c ∈ s.data.toList, c.toNat < 128
def UnitsPost (w : World) (l : List Nat) (e : Ending) (w' : World) : Prop := ∃ v, e = .returned v ∧ w'.ownsRow w.heap.size 3 1 v l.length (W.numC l) ∧ Below w.heap.size w w'
theorem extract2 (s : ByteArray) (p n : Nat) (hp : p ≤ s.size) : (s.extract p s.size).extract n (s.extract p s.size).size = s.extract (p + n) s.size := by
  apply ByteArray.ext
  simp [ByteArray.data_extract, Array.extract_extract]
  rw [show min (p + (s.size - p)) s.size = s.size by omega]
set_option maxRecDepth 1000000 in
set_option maxHeartbeats 2000000 in
theorem unitsA_any (s : ByteArray) (hs : s.size ≤ 1000000) (ha : Ascii s) (w : World) :
    Calls Tryz.prog 99 #[.string s] w (UnitsPost w (codes s)) := by
  obtain ⟨i0, hi, hz0, hz1, hz2⟩ := info_parts W.Tryz.info3
  have HA := Veil.mk ha
  clear ha
  go_enter Tryz.func99, Tryz.ntmps99
  go_wp2
  go_loopw [0, 3] (fun x v wr => ∃ pos : Nat, x = .string (s.extract pos s.size) ∧ wr.ownsRow w.heap.size 3 1 v pos (W.numC ((codes s).take pos)) ∧ Below w.heap.size w wr ∧ pos ≤ s.size) (fun x _ _ => match x with | .string y => y.size | _ => 0)
  case atStart => exact ⟨0, by rw [show s.extract 0 s.size = s from ByteArray.ext (by simp)], World.ownsRow_nil _ _ _ _, Below.refl _ _, by omega⟩
  case round =>
    obtain ⟨pos, rfl, hown, hbw, hps⟩ := hrel
    have hxs : (s.extract pos s.size).size = s.size - pos := by simp
    obtain ⟨x, hx⟩ : ∃ x, x = s.extract pos s.size := ⟨_, rfl⟩
    rw [← hx] at hxs ⊢
    by_cases hp : pos < s.size
    · have hgt : (0 : Int) < (x.size : Int) := by omega
      have hpl : pos < s.data.toList.length := by simpa using hp
      obtain ⟨c, hc⟩ : ∃ c, c = s.data.toList[pos] := ⟨_, rfl⟩
      have hc1 : c.toNat < 128 := by rw [hc]; exact HA.out _ (List.getElem_mem hpl)
      have hx0 : x.data.toList[0]? = some c := by
        rw [hx, hc]
        simp [ByteArray.data_extract]
        rw [List.getElem?_take, if_pos (by omega), List.getElem?_drop]
        simp [hp]
      have htk : (codes s).take (pos + 1) = (codes s).take pos ++ [c.toNat] := by
        unfold codes
        rw [← List.map_take, ← List.map_take, List.take_succ_eq_append_getElem hpl, List.map_append, hc]
        rfl
      have hD := Veil.mk (fun W => Tryz.utf8_DecodeRuneInString_ascii x c W hx0 hc1)
      have hex : x.extract 1 x.size = s.extract (pos + 1) s.size := by rw [hx]; exact extract2 s pos 1 hps
      obtain ⟨x2, hx2⟩ : ∃ x2, x2 = s.extract (pos + 1) s.size := ⟨_, rfl⟩
      rw [← hx2] at hex
      have hx2s : x2.size = s.size - (pos + 1) := by rw [hx2]; simp
      have HX2 := Veil.mk hx2
      have HX2S := Veil.mk hx2s
      have HXS := Veil.mk hxs
      have HTK := Veil.mk htk
      have hsl : ∀ W, (Instr.slice 9 (.string x) (some (.int .i64 1)) none none).run Tryz.prog W = .ok (.string x2) W := fun W => by
        rw [run_slice_string_from_if W 9 x .i64 1 Tryz.underlying9, if_pos ⟨by omega, by omega⟩, show (1 : Int).toNat = 1 from rfl, hex]
      obtain ⟨n, hn⟩ : ∃ n, n = c.toNat := ⟨_, rfl⟩
      rw [← hn] at hc1 HTK hD
      have hci : (n : Int) < 65536 := by omega
      have hc0 : (0 : Int) ≤ (n : Int) := by omega
      have hle := hbw.size
      clear hex hx hx0 htk hx2 hx2s hxs hc hn hpl
      go_wp2_with (first | (go_at_call 111; ((with_reducible refine (hD.out _).mono ?_); rintro e w2 ⟨rfl, rfl⟩)) | (at_builtin; refine wpList_append_own _ rfl _ _ 53 rfl w.heap.size 3 i0 (.int .i64 0) 1 8 Tryz.underlying53 hi hz0 hz1 hz2 rfl (by decide) _ _ _ rfl (hown.alloc _) ⟨_, 0, none⟩ 1 1 [_] rfl rfl (cells_new _ _ _) (fun x hx => by simp at hx; rcases hx with rfl <;> rfl) (by unfold maxLen; omega) (by omega) (by simp; omega) ?_; intro v' w3 hown' hgrow3 hnil3; refine Hid.out ?_))
      have hown3 : w3.ownsRow w.heap.size 3 1 v' (pos + 1) (W.numC ((codes s).take (pos + 1))) := by rw [HTK.out, W.numC_append]; exact hown'
      have hbw3 : Below w.heap.size w w3 := Below.grown (hbw.alloc (by omega) _) hgrow3 (by simp; omega) (fun j hj => (hown.lt _ hj).1)
      clear hown' hgrow3 hnil3 hown hbw hD
      refine Lib.hid ?_
      go_wp2
      go_roundw
      case rel => exact ⟨pos + 1, by rw [HX2.out], hown3, hbw3, by omega⟩
      case measure =>
        have h1 := HXS.out
        have h2 := HX2S.out
        show x2.size < x.size
        omega
    · have hgt : ¬ (0 : Int) < (x.size : Int) := by omega
      have he : pos = (codes s).length := by rw [codes_length]; omega
      rw [he, List.take_length] at hown
      have HO := Veil.mk hown
      clear he hown
      go_wp2
      go_ret
      exact ⟨_, rfl, HO.out, hbw⟩
theorem decode_ascii (s : ByteArray) (p : Nat) (h : (s.get! p).toNat < 128) : Utf8.decode s p = ((s.get! p).toNat, 1) := by
  unfold Utf8.decode
  simp [h]
theorem get_data (s : ByteArray) (p : Nat) (hp : p < s.data.toList.length) : s.get! p = s.data.toList[p] := by
  cases s with
  | mk d =>
    show d[p]! = _
    have hp' : p < d.size := by simpa using hp
    simp [hp']
theorem ofFrom_ascii (s : ByteArray) (ha : Ascii s) : ∀ f p, s.size ≤ p + f → W.ofFrom s f p = ((codes s).drop p).flatMap W.u2
  | 0, p, h => by
    have : (codes s).drop p = [] := List.drop_of_length_le (by rw [codes_length]; omega)
    rw [this]; rfl
  | f + 1, p, h => by
    by_cases hp : p < s.size
    · have hpl : p < s.data.toList.length := by simpa using hp
      have hc : (s.get! p).toNat < 128 := by rw [get_data s p hpl]; exact ha _ (List.getElem_mem hpl)
      rw [W.ofFrom_step s f p hp, decode_ascii s p hc]
      simp only
      rw [ofFrom_ascii s ha f (p + 1) (by omega)]
      have hd : (codes s).drop p = (s.get! p).toNat :: (codes s).drop (p + 1) := by
        rw [List.drop_eq_getElem_cons (by rw [codes_length]; exact hp)]
        congr 1
        rw [get_data s p hpl]
        simp [codes]
      rw [hd, List.flatMap_cons]
      congr 1
      unfold W.ofR
      rw [if_pos (by omega)]
    · have : (codes s).drop p = [] := List.drop_of_length_le (by rw [codes_length]; omega)
      rw [this, W.ofFrom_end s _ p hp]; rfl
theorem ofB_ascii (s : ByteArray) (ha : Ascii s) : W.ofB s = (codes s).flatMap W.u2 := by
  have := ofFrom_ascii s ha s.size 0 (by omega)
  rw [List.drop_zero] at this
  exact this
theorem digits_ascii (u : Nat) : ∀ c ∈ Lib.decDigits u, c.toNat < 128 := by
  rw [Lib.decDigits_eq]
  intro c hc
  obtain ⟨t, -, rfl⟩ := List.mem_map.1 hc
  unfold Lib.dg
  simp
  omega
theorem itoa_ascii (n : Int) : ∀ c ∈ Lib.itoa n, c.toNat < 128 := by
  unfold Lib.itoa
  split
  · intro c hc
    rcases List.mem_cons.1 hc with rfl | hc
    · decide
    · exact digits_ascii _ c hc
  · exact digits_ascii _
theorem txt_ascii (k n : Int) : Ascii (M.txt k n) := by
  unfold M.txt Ascii
  split
  · decide
  split
  · split <;> decide
  split
  · decide
  · intro c hc
    exact itoa_ascii n c (by simpa using hc)
theorem txt_size {k n : Int} (h : M.Num k n) : (M.txt k n).size ≤ 100 := by
  rcases h with ⟨rfl, rfl⟩ | ⟨rfl, rfl⟩ | ⟨rfl, rfl⟩ | ⟨rfl, rfl⟩ | ⟨rfl, h1, h2⟩
  · decide
  · decide
  · decide
  · decide
  · show (Lib.itoa n).toArray.size ≤ 100
    have := Lib.itoa_length_le n (by omega) (by omega)
    rw [List.size_toArray]
    omega
abbrev sUndef : ByteArray := ⟨#[117, 110, 100, 101, 102, 105, 110, 101, 100]⟩
abbrev sNull : ByteArray := ⟨#[110, 117, 108, 108]⟩
abbrev sTrue : ByteArray := ⟨#[116, 114, 117, 101]⟩
abbrev sFalse : ByteArray := ⟨#[102, 97, 108, 115, 101]⟩
/-- A value's text: its bytes as they are given to text.Of. -/
def plainT (x : Vt) : ByteArray := if 3 ≤ x.1 ∧ x.1 ≤ 6 then M.txt x.1 x.2.1 else if x.1 = 0 then sUndef else if x.1 = 1 then sNull else if x.2.1 = 0 then sFalse else sTrue
def textT (x : Vt) : ByteArray × Int :=
  if x.1 = 7 then (x.2.2, 0) else if x.1 = 8 then (W.e0, 1) else if x.1 = 9 ∨ x.1 = 10 then (W.e0, 2) else (⟨(W.ofB (plainT x)).toArray⟩, 0)
set_option maxRecDepth 100000 in
set_option maxHeartbeats 2000000 in
theorem text_any (x : Vt) (hx : WV x.1 x.2.1 x.2.2) (w : World) (hT : M.Tb w) : Calls Tryz.prog 62 #[valV x] w fun e w' => e = .returned (.tuple #[.string (textT x).1, .int .i64 (textT x).2]) ∧ Below w.heap.size w w' := by
  obtain ⟨k, n, s⟩ := x
  simp only at hx
  have HT := Veil.mk hT
  clear hT
  rcases wv_ways hx with ⟨rfl, rfl, rfl⟩ | ⟨rfl, rfl, rfl⟩ | ⟨rfl, rfl, rfl⟩ | ⟨rfl, rfl, rfl⟩ | ⟨rfl, rfl, rfl⟩ | ⟨rfl, rfl, rfl⟩ | ⟨rfl, rfl, rfl⟩ | ⟨rfl, rfl, rfl⟩ | ⟨rfl, rfl, rfl⟩ | ⟨rfl, hn, rfl⟩ | ⟨rfl, rfl, hn⟩ | ⟨rfl, hn, rfl⟩ | ⟨rfl, hn, rfl⟩
  · have ix := Veil.mk (is_no_eq 0 0 W.e0 (by omega))
    have ox := Veil.mk (W.of_any sUndef (by decide))
    clear hx
    go_enter Tryz.func62, Tryz.ntmps62
    go_wp2_with (first | (go_at_call 94; ((with_reducible refine (ix.out _).mono ?_); rintro e w' ⟨rfl, rfl⟩)) | (go_at_call 20; ((with_reducible refine (ox.out _).mono ?_); rintro e w2 ⟨rfl, hb2⟩)))
    go_ret2
    exact ⟨rfl, by repeat (first | (with_reducible assumption) | (with_reducible exact Below.refl _ _) | (with_reducible refine M.blw_alloc _ ?_) | (with_reducible refine M.blw_call ?_ (by assumption)))⟩
  · have ix := Veil.mk (is_no_eq 1 0 W.e0 (by omega))
    have ox := Veil.mk (W.of_any sNull (by decide))
    clear hx
    go_enter Tryz.func62, Tryz.ntmps62
    go_wp2_with (first | (go_at_call 94; ((with_reducible refine (ix.out _).mono ?_); rintro e w' ⟨rfl, rfl⟩)) | (go_at_call 20; ((with_reducible refine (ox.out _).mono ?_); rintro e w2 ⟨rfl, hb2⟩)))
    go_ret2
    exact ⟨rfl, by repeat (first | (with_reducible assumption) | (with_reducible exact Below.refl _ _) | (with_reducible refine M.blw_alloc _ ?_) | (with_reducible refine M.blw_call ?_ (by assumption)))⟩
  · have ix := Veil.mk (is_no_eq 10 0 W.e0 (by omega))
    clear hx
    go_enter Tryz.func62, Tryz.ntmps62
    go_wp2_with (first | (go_at_call 94; ((with_reducible refine (ix.out _).mono ?_); rintro e w' ⟨rfl, rfl⟩)))
    go_ret2
    exact ⟨rfl, by repeat (first | (with_reducible assumption) | (with_reducible exact Below.refl _ _) | (with_reducible refine M.blw_alloc _ ?_) | (with_reducible refine M.blw_call ?_ (by assumption)))⟩
  · have ix := Veil.mk (is_no_eq 2 0 W.e0 (by omega))
    have ox := Veil.mk (W.of_any sFalse (by decide))
    clear hx
    go_enter Tryz.func62, Tryz.ntmps62
    go_wp2_with (first | (go_at_call 94; ((with_reducible refine (ix.out _).mono ?_); rintro e w' ⟨rfl, rfl⟩)) | (go_at_call 20; ((with_reducible refine (ox.out _).mono ?_); rintro e w2 ⟨rfl, hb2⟩)))
    go_ret2
    exact ⟨rfl, by repeat (first | (with_reducible assumption) | (with_reducible exact Below.refl _ _) | (with_reducible refine M.blw_alloc _ ?_) | (with_reducible refine M.blw_call ?_ (by assumption)))⟩
  · have ix := Veil.mk (is_no_eq 2 1 W.e0 (by omega))
    have ox := Veil.mk (W.of_any sTrue (by decide))
    clear hx
    go_enter Tryz.func62, Tryz.ntmps62
    go_wp2_with (first | (go_at_call 94; ((with_reducible refine (ix.out _).mono ?_); rintro e w' ⟨rfl, rfl⟩)) | (go_at_call 20; ((with_reducible refine (ox.out _).mono ?_); rintro e w2 ⟨rfl, hb2⟩)))
    go_ret2
    exact ⟨rfl, by repeat (first | (with_reducible assumption) | (with_reducible exact Below.refl _ _) | (with_reducible refine M.blw_alloc _ ?_) | (with_reducible refine M.blw_call ?_ (by assumption)))⟩
  · have hN : M.Num 4 0 := .inl ⟨rfl, rfl⟩
    have ix := Veil.mk (M.is_any 4 0 hN)
    have tx := Veil.mk (fun wx => M.text_any hN wx)
    have ox := Veil.mk (W.of_any (M.txt 4 0) (by have := txt_size hN; omega))
    clear hx hN
    go_enter Tryz.func62, Tryz.ntmps62
    go_wp2_with (first | (go_at_call 94; ((with_reducible refine (ix.out _).mono ?_); rintro e w' ⟨rfl, rfl⟩)) | (go_at_call 95; ((with_reducible refine (tx.out _ (HT.out.on (by repeat (first | (with_reducible assumption) | (with_reducible exact Below.refl _ _) | (with_reducible refine M.blw_alloc _ ?_) | (with_reducible refine M.blw_call ?_ (by assumption)))))).mono ?_); rintro e w1 ⟨rfl, hb1⟩)) | (go_at_call 20; ((with_reducible refine (ox.out _).mono ?_); rintro e w2 ⟨rfl, hb2⟩)))
    go_ret2
    exact ⟨rfl, by repeat (first | (with_reducible assumption) | (with_reducible exact Below.refl _ _) | (with_reducible refine M.blw_alloc _ ?_) | (with_reducible refine M.blw_call ?_ (by assumption)))⟩
  · have hN : M.Num 5 1 := .inr (.inl ⟨rfl, rfl⟩)
    have ix := Veil.mk (M.is_any 5 1 hN)
    have tx := Veil.mk (fun wx => M.text_any hN wx)
    have ox := Veil.mk (W.of_any (M.txt 5 1) (by have := txt_size hN; omega))
    clear hx hN
    go_enter Tryz.func62, Tryz.ntmps62
    go_wp2_with (first | (go_at_call 94; ((with_reducible refine (ix.out _).mono ?_); rintro e w' ⟨rfl, rfl⟩)) | (go_at_call 95; ((with_reducible refine (tx.out _ (HT.out.on (by repeat (first | (with_reducible assumption) | (with_reducible exact Below.refl _ _) | (with_reducible refine M.blw_alloc _ ?_) | (with_reducible refine M.blw_call ?_ (by assumption)))))).mono ?_); rintro e w1 ⟨rfl, hb1⟩)) | (go_at_call 20; ((with_reducible refine (ox.out _).mono ?_); rintro e w2 ⟨rfl, hb2⟩)))
    go_ret2
    exact ⟨rfl, by repeat (first | (with_reducible assumption) | (with_reducible exact Below.refl _ _) | (with_reducible refine M.blw_alloc _ ?_) | (with_reducible refine M.blw_call ?_ (by assumption)))⟩
  · have hN : M.Num 5 (-1) := .inr (.inr (.inl ⟨rfl, rfl⟩))
    have ix := Veil.mk (M.is_any 5 (-1) hN)
    have tx := Veil.mk (fun wx => M.text_any hN wx)
    have ox := Veil.mk (W.of_any (M.txt 5 (-1)) (by have := txt_size hN; omega))
    clear hx hN
    go_enter Tryz.func62, Tryz.ntmps62
    go_wp2_with (first | (go_at_call 94; ((with_reducible refine (ix.out _).mono ?_); rintro e w' ⟨rfl, rfl⟩)) | (go_at_call 95; ((with_reducible refine (tx.out _ (HT.out.on (by repeat (first | (with_reducible assumption) | (with_reducible exact Below.refl _ _) | (with_reducible refine M.blw_alloc _ ?_) | (with_reducible refine M.blw_call ?_ (by assumption)))))).mono ?_); rintro e w1 ⟨rfl, hb1⟩)) | (go_at_call 20; ((with_reducible refine (ox.out _).mono ?_); rintro e w2 ⟨rfl, hb2⟩)))
    go_ret2
    exact ⟨rfl, by repeat (first | (with_reducible assumption) | (with_reducible exact Below.refl _ _) | (with_reducible refine M.blw_alloc _ ?_) | (with_reducible refine M.blw_call ?_ (by assumption)))⟩
  · have hN : M.Num 6 0 := .inr (.inr (.inr (.inl ⟨rfl, rfl⟩)))
    have ix := Veil.mk (M.is_any 6 0 hN)
    have tx := Veil.mk (fun wx => M.text_any hN wx)
    have ox := Veil.mk (W.of_any (M.txt 6 0) (by have := txt_size hN; omega))
    clear hx hN
    go_enter Tryz.func62, Tryz.ntmps62
    go_wp2_with (first | (go_at_call 94; ((with_reducible refine (ix.out _).mono ?_); rintro e w' ⟨rfl, rfl⟩)) | (go_at_call 95; ((with_reducible refine (tx.out _ (HT.out.on (by repeat (first | (with_reducible assumption) | (with_reducible exact Below.refl _ _) | (with_reducible refine M.blw_alloc _ ?_) | (with_reducible refine M.blw_call ?_ (by assumption)))))).mono ?_); rintro e w1 ⟨rfl, hb1⟩)) | (go_at_call 20; ((with_reducible refine (ox.out _).mono ?_); rintro e w2 ⟨rfl, hb2⟩)))
    go_ret2
    exact ⟨rfl, by repeat (first | (with_reducible assumption) | (with_reducible exact Below.refl _ _) | (with_reducible refine M.blw_alloc _ ?_) | (with_reducible refine M.blw_call ?_ (by assumption)))⟩
  · have hN : M.Num 3 n := .inr (.inr (.inr (.inr ⟨rfl, hn.1, hn.2⟩)))
    have ix := Veil.mk (M.is_any 3 n hN)
    have tx := Veil.mk (fun wx => M.text_any hN wx)
    have ox := Veil.mk (W.of_any (M.txt 3 n) (by have := txt_size hN; omega))
    clear hx hN hn
    go_enter Tryz.func62, Tryz.ntmps62
    go_wp2_with (first | (go_at_call 94; ((with_reducible refine (ix.out _).mono ?_); rintro e w' ⟨rfl, rfl⟩)) | (go_at_call 95; ((with_reducible refine (tx.out _ (HT.out.on (by repeat (first | (with_reducible assumption) | (with_reducible exact Below.refl _ _) | (with_reducible refine M.blw_alloc _ ?_) | (with_reducible refine M.blw_call ?_ (by assumption)))))).mono ?_); rintro e w1 ⟨rfl, hb1⟩)) | (go_at_call 20; ((with_reducible refine (ox.out _).mono ?_); rintro e w2 ⟨rfl, hb2⟩)))
    go_ret2
    exact ⟨rfl, by repeat (first | (with_reducible assumption) | (with_reducible exact Below.refl _ _) | (with_reducible refine M.blw_alloc _ ?_) | (with_reducible refine M.blw_call ?_ (by assumption)))⟩
  · clear hn hx
    go_enter Tryz.func62, Tryz.ntmps62
    go_wp2
    go_ret2
    exact ⟨rfl, (Below.refl _ _).alloc (Nat.le_refl _) _⟩
  · have ix := Veil.mk (is_no_eq 8 n W.e0 (by omega))
    clear hx hn
    go_enter Tryz.func62, Tryz.ntmps62
    go_wp2_with (first | (go_at_call 94; ((with_reducible refine (ix.out _).mono ?_); rintro e w' ⟨rfl, rfl⟩)))
    go_ret2
    exact ⟨rfl, by repeat (first | (with_reducible assumption) | (with_reducible exact Below.refl _ _) | (with_reducible refine M.blw_alloc _ ?_) | (with_reducible refine M.blw_call ?_ (by assumption)))⟩
  · have ix := Veil.mk (is_no_eq 9 n W.e0 (by omega))
    clear hx hn
    go_enter Tryz.func62, Tryz.ntmps62
    go_wp2_with (first | (go_at_call 94; ((with_reducible refine (ix.out _).mono ?_); rintro e w' ⟨rfl, rfl⟩)))
    go_ret2
    exact ⟨rfl, by repeat (first | (with_reducible assumption) | (with_reducible exact Below.refl _ _) | (with_reducible refine M.blw_alloc _ ?_) | (with_reducible refine M.blw_call ?_ (by assumption)))⟩
/-- What the reference makes of a plain text. -/
theorem back_any (s : ByteArray) (hs : s.size ≤ 100) (ha : Ascii s) (a : Option Addr) (cap : Nat) (w : World) (h : W.Nums .i64 w a (codes s).length (codes s)) :
    Calls Tryz.prog 35 #[.slice a (codes s).length cap] w fun e w' => e = .returned (.string ⟨(W.ofB s).toArray⟩) ∧ Below w.heap.size w w' := by
  rw [ofB_ascii s ha]
  refine W.str_any a _ cap (codes s) (by rw [codes_length]; omega) (fun u hu => ?_) w h
  obtain ⟨c, hc, rfl⟩ := List.mem_map.1 hu
  have := ha c hc
  omega
set_option maxRecDepth 100000 in
set_option maxHeartbeats 2000000 in
theorem rtext_any (x : Vt) (hx : WV x.1 x.2.1 x.2.2) (w : World) (hT : M.Tb w) : Calls Tryz.prog 69 #[valV x] w fun e w' => e = .returned (.tuple #[.string (textT x).1, .int .i64 (textT x).2]) ∧ Below w.heap.size w w' := by
  obtain ⟨k, n, s⟩ := x
  simp only at hx
  have HT := Veil.mk hT
  clear hT
  rcases wv_ways hx with ⟨rfl, rfl, rfl⟩ | ⟨rfl, rfl, rfl⟩ | ⟨rfl, rfl, rfl⟩ | ⟨rfl, rfl, rfl⟩ | ⟨rfl, rfl, rfl⟩ | ⟨rfl, rfl, rfl⟩ | ⟨rfl, rfl, rfl⟩ | ⟨rfl, rfl, rfl⟩ | ⟨rfl, rfl, rfl⟩ | ⟨rfl, hn, rfl⟩ | ⟨rfl, rfl, hn⟩ | ⟨rfl, hn, rfl⟩ | ⟨rfl, hn, rfl⟩
  · clear hx
    have ux := Veil.mk (unitsA_any sUndef (by decide) (by unfold Ascii; decide))
    have bx := Veil.mk (back_any sUndef (by decide) (by unfold Ascii; decide))
    go_enter Tryz.func69, Tryz.ntmps69
    go_wp2_with (first | (go_at_call 99; ((with_reducible refine (ux.out _).mono ?_); intro e w3 hp; obtain ⟨v, rfl, hown, hb3⟩ := hp; obtain ⟨a3, c3, rfl, hnm⟩ := W.own_nums hown; have HNM := Veil.mk hnm; clear hnm hown; refine Hid.out ?_)))
    refine Lib.hid ?_
    go_wp2_with (first | (go_at_call 35; ((with_reducible refine (bx.out _ _ _ HNM.out).mono ?_); rintro e w4 ⟨rfl, hb4⟩)))
    go_ret2
    exact ⟨rfl, by repeat (first | (with_reducible assumption) | (with_reducible exact Below.refl _ _) | (with_reducible refine M.blw_alloc _ ?_) | (with_reducible refine M.blw_call ?_ (by assumption)))⟩
  · clear hx
    have ux := Veil.mk (unitsA_any sNull (by decide) (by unfold Ascii; decide))
    have bx := Veil.mk (back_any sNull (by decide) (by unfold Ascii; decide))
    go_enter Tryz.func69, Tryz.ntmps69
    go_wp2_with (first | (go_at_call 99; ((with_reducible refine (ux.out _).mono ?_); intro e w3 hp; obtain ⟨v, rfl, hown, hb3⟩ := hp; obtain ⟨a3, c3, rfl, hnm⟩ := W.own_nums hown; have HNM := Veil.mk hnm; clear hnm hown; refine Hid.out ?_)))
    refine Lib.hid ?_
    go_wp2_with (first | (go_at_call 35; ((with_reducible refine (bx.out _ _ _ HNM.out).mono ?_); rintro e w4 ⟨rfl, hb4⟩)))
    go_ret2
    exact ⟨rfl, by repeat (first | (with_reducible assumption) | (with_reducible exact Below.refl _ _) | (with_reducible refine M.blw_alloc _ ?_) | (with_reducible refine M.blw_call ?_ (by assumption)))⟩
  · clear hx
    go_enter Tryz.func69, Tryz.ntmps69
    go_wp2
    go_ret2
    exact ⟨rfl, (Below.refl _ _).alloc (Nat.le_refl _) _⟩
  · clear hx
    have ux := Veil.mk (unitsA_any sFalse (by decide) (by unfold Ascii; decide))
    have bx := Veil.mk (back_any sFalse (by decide) (by unfold Ascii; decide))
    go_enter Tryz.func69, Tryz.ntmps69
    go_wp2_with (first | (go_at_call 99; ((with_reducible refine (ux.out _).mono ?_); intro e w3 hp; obtain ⟨v, rfl, hown, hb3⟩ := hp; obtain ⟨a3, c3, rfl, hnm⟩ := W.own_nums hown; have HNM := Veil.mk hnm; clear hnm hown; refine Hid.out ?_)))
    refine Lib.hid ?_
    go_wp2_with (first | (go_at_call 35; ((with_reducible refine (bx.out _ _ _ HNM.out).mono ?_); rintro e w4 ⟨rfl, hb4⟩)))
    go_ret2
    exact ⟨rfl, by repeat (first | (with_reducible assumption) | (with_reducible exact Below.refl _ _) | (with_reducible refine M.blw_alloc _ ?_) | (with_reducible refine M.blw_call ?_ (by assumption)))⟩
  · clear hx
    have ux := Veil.mk (unitsA_any sTrue (by decide) (by unfold Ascii; decide))
    have bx := Veil.mk (back_any sTrue (by decide) (by unfold Ascii; decide))
    go_enter Tryz.func69, Tryz.ntmps69
    go_wp2_with (first | (go_at_call 99; ((with_reducible refine (ux.out _).mono ?_); intro e w3 hp; obtain ⟨v, rfl, hown, hb3⟩ := hp; obtain ⟨a3, c3, rfl, hnm⟩ := W.own_nums hown; have HNM := Veil.mk hnm; clear hnm hown; refine Hid.out ?_)))
    refine Lib.hid ?_
    go_wp2_with (first | (go_at_call 35; ((with_reducible refine (bx.out _ _ _ HNM.out).mono ?_); rintro e w4 ⟨rfl, hb4⟩)))
    go_ret2
    exact ⟨rfl, by repeat (first | (with_reducible assumption) | (with_reducible exact Below.refl _ _) | (with_reducible refine M.blw_alloc _ ?_) | (with_reducible refine M.blw_call ?_ (by assumption)))⟩
  · clear hx
    have hN : M.Num 4 0 := .inl ⟨rfl, rfl⟩
    have qx := Veil.mk (fun wx => M.of_any hN wx)
    have tx := Veil.mk (fun wx => M.rtext_any hN wx)
    have ux := Veil.mk (unitsA_any (M.txt 4 0) (by have := txt_size hN; omega) (txt_ascii _ _))
    have bx := Veil.mk (back_any (M.txt 4 0) (txt_size hN) (txt_ascii _ _))
    clear hN
    go_enter Tryz.func69, Tryz.ntmps69
    go_wp2_with (first | (go_at_call 101; ((with_reducible refine (qx.out _).mono ?_); rintro e w1 ⟨rfl, hb1⟩)) | (go_at_call 100; ((with_reducible refine (tx.out _ (HT.out.on (by repeat (first | (with_reducible assumption) | (with_reducible exact Below.refl _ _) | (with_reducible refine M.blw_alloc _ ?_) | (with_reducible refine M.blw_call ?_ (by assumption)))))).mono ?_); rintro e w2 ⟨rfl, hb2⟩)) | (go_at_call 99; ((with_reducible refine (ux.out _).mono ?_); intro e w3 hp; obtain ⟨v, rfl, hown, hb3⟩ := hp; obtain ⟨a3, c3, rfl, hnm⟩ := W.own_nums hown; have HNM := Veil.mk hnm; clear hnm hown; refine Hid.out ?_)))
    refine Lib.hid ?_
    go_wp2_with (first | (go_at_call 35; ((with_reducible refine (bx.out _ _ _ HNM.out).mono ?_); rintro e w4 ⟨rfl, hb4⟩)))
    go_ret2
    exact ⟨rfl, by repeat (first | (with_reducible assumption) | (with_reducible exact Below.refl _ _) | (with_reducible refine M.blw_alloc _ ?_) | (with_reducible refine M.blw_call ?_ (by assumption)))⟩
  · clear hx
    have hN : M.Num 5 1 := .inr (.inl ⟨rfl, rfl⟩)
    have qx := Veil.mk (fun wx => M.of_any hN wx)
    have tx := Veil.mk (fun wx => M.rtext_any hN wx)
    have ux := Veil.mk (unitsA_any (M.txt 5 1) (by have := txt_size hN; omega) (txt_ascii _ _))
    have bx := Veil.mk (back_any (M.txt 5 1) (txt_size hN) (txt_ascii _ _))
    clear hN
    go_enter Tryz.func69, Tryz.ntmps69
    go_wp2_with (first | (go_at_call 101; ((with_reducible refine (qx.out _).mono ?_); rintro e w1 ⟨rfl, hb1⟩)) | (go_at_call 100; ((with_reducible refine (tx.out _ (HT.out.on (by repeat (first | (with_reducible assumption) | (with_reducible exact Below.refl _ _) | (with_reducible refine M.blw_alloc _ ?_) | (with_reducible refine M.blw_call ?_ (by assumption)))))).mono ?_); rintro e w2 ⟨rfl, hb2⟩)) | (go_at_call 99; ((with_reducible refine (ux.out _).mono ?_); intro e w3 hp; obtain ⟨v, rfl, hown, hb3⟩ := hp; obtain ⟨a3, c3, rfl, hnm⟩ := W.own_nums hown; have HNM := Veil.mk hnm; clear hnm hown; refine Hid.out ?_)))
    refine Lib.hid ?_
    go_wp2_with (first | (go_at_call 35; ((with_reducible refine (bx.out _ _ _ HNM.out).mono ?_); rintro e w4 ⟨rfl, hb4⟩)))
    go_ret2
    exact ⟨rfl, by repeat (first | (with_reducible assumption) | (with_reducible exact Below.refl _ _) | (with_reducible refine M.blw_alloc _ ?_) | (with_reducible refine M.blw_call ?_ (by assumption)))⟩
  · clear hx
    have hN : M.Num 5 (-1) := .inr (.inr (.inl ⟨rfl, rfl⟩))
    have qx := Veil.mk (fun wx => M.of_any hN wx)
    have tx := Veil.mk (fun wx => M.rtext_any hN wx)
    have ux := Veil.mk (unitsA_any (M.txt 5 (-1)) (by have := txt_size hN; omega) (txt_ascii _ _))
    have bx := Veil.mk (back_any (M.txt 5 (-1)) (txt_size hN) (txt_ascii _ _))
    clear hN
    go_enter Tryz.func69, Tryz.ntmps69
    go_wp2_with (first | (go_at_call 101; ((with_reducible refine (qx.out _).mono ?_); rintro e w1 ⟨rfl, hb1⟩)) | (go_at_call 100; ((with_reducible refine (tx.out _ (HT.out.on (by repeat (first | (with_reducible assumption) | (with_reducible exact Below.refl _ _) | (with_reducible refine M.blw_alloc _ ?_) | (with_reducible refine M.blw_call ?_ (by assumption)))))).mono ?_); rintro e w2 ⟨rfl, hb2⟩)) | (go_at_call 99; ((with_reducible refine (ux.out _).mono ?_); intro e w3 hp; obtain ⟨v, rfl, hown, hb3⟩ := hp; obtain ⟨a3, c3, rfl, hnm⟩ := W.own_nums hown; have HNM := Veil.mk hnm; clear hnm hown; refine Hid.out ?_)))
    refine Lib.hid ?_
    go_wp2_with (first | (go_at_call 35; ((with_reducible refine (bx.out _ _ _ HNM.out).mono ?_); rintro e w4 ⟨rfl, hb4⟩)))
    go_ret2
    exact ⟨rfl, by repeat (first | (with_reducible assumption) | (with_reducible exact Below.refl _ _) | (with_reducible refine M.blw_alloc _ ?_) | (with_reducible refine M.blw_call ?_ (by assumption)))⟩
  · clear hx
    have hN : M.Num 6 0 := .inr (.inr (.inr (.inl ⟨rfl, rfl⟩)))
    have qx := Veil.mk (fun wx => M.of_any hN wx)
    have tx := Veil.mk (fun wx => M.rtext_any hN wx)
    have ux := Veil.mk (unitsA_any (M.txt 6 0) (by have := txt_size hN; omega) (txt_ascii _ _))
    have bx := Veil.mk (back_any (M.txt 6 0) (txt_size hN) (txt_ascii _ _))
    clear hN
    go_enter Tryz.func69, Tryz.ntmps69
    go_wp2_with (first | (go_at_call 101; ((with_reducible refine (qx.out _).mono ?_); rintro e w1 ⟨rfl, hb1⟩)) | (go_at_call 100; ((with_reducible refine (tx.out _ (HT.out.on (by repeat (first | (with_reducible assumption) | (with_reducible exact Below.refl _ _) | (with_reducible refine M.blw_alloc _ ?_) | (with_reducible refine M.blw_call ?_ (by assumption)))))).mono ?_); rintro e w2 ⟨rfl, hb2⟩)) | (go_at_call 99; ((with_reducible refine (ux.out _).mono ?_); intro e w3 hp; obtain ⟨v, rfl, hown, hb3⟩ := hp; obtain ⟨a3, c3, rfl, hnm⟩ := W.own_nums hown; have HNM := Veil.mk hnm; clear hnm hown; refine Hid.out ?_)))
    refine Lib.hid ?_
    go_wp2_with (first | (go_at_call 35; ((with_reducible refine (bx.out _ _ _ HNM.out).mono ?_); rintro e w4 ⟨rfl, hb4⟩)))
    go_ret2
    exact ⟨rfl, by repeat (first | (with_reducible assumption) | (with_reducible exact Below.refl _ _) | (with_reducible refine M.blw_alloc _ ?_) | (with_reducible refine M.blw_call ?_ (by assumption)))⟩
  · clear hx
    have hN : M.Num 3 n := .inr (.inr (.inr (.inr ⟨rfl, hn.1, hn.2⟩)))
    have qx := Veil.mk (fun wx => M.of_any hN wx)
    have tx := Veil.mk (fun wx => M.rtext_any hN wx)
    have ux := Veil.mk (unitsA_any (M.txt 3 n) (by have := txt_size hN; omega) (txt_ascii _ _))
    have bx := Veil.mk (back_any (M.txt 3 n) (txt_size hN) (txt_ascii _ _))
    clear hN
    clear hn
    go_enter Tryz.func69, Tryz.ntmps69
    go_wp2_with (first | (go_at_call 101; ((with_reducible refine (qx.out _).mono ?_); rintro e w1 ⟨rfl, hb1⟩)) | (go_at_call 100; ((with_reducible refine (tx.out _ (HT.out.on (by repeat (first | (with_reducible assumption) | (with_reducible exact Below.refl _ _) | (with_reducible refine M.blw_alloc _ ?_) | (with_reducible refine M.blw_call ?_ (by assumption)))))).mono ?_); rintro e w2 ⟨rfl, hb2⟩)) | (go_at_call 99; ((with_reducible refine (ux.out _).mono ?_); intro e w3 hp; obtain ⟨v, rfl, hown, hb3⟩ := hp; obtain ⟨a3, c3, rfl, hnm⟩ := W.own_nums hown; have HNM := Veil.mk hnm; clear hnm hown; refine Hid.out ?_)))
    refine Lib.hid ?_
    go_wp2_with (first | (go_at_call 35; ((with_reducible refine (bx.out _ _ _ HNM.out).mono ?_); rintro e w4 ⟨rfl, hb4⟩)))
    go_ret2
    exact ⟨rfl, by repeat (first | (with_reducible assumption) | (with_reducible exact Below.refl _ _) | (with_reducible refine M.blw_alloc _ ?_) | (with_reducible refine M.blw_call ?_ (by assumption)))⟩
  · clear hn hx
    go_enter Tryz.func69, Tryz.ntmps69
    go_wp2
    go_ret2
    exact ⟨rfl, (Below.refl _ _).alloc (Nat.le_refl _) _⟩
  · clear hn hx
    go_enter Tryz.func69, Tryz.ntmps69
    go_wp2
    go_ret2
    exact ⟨rfl, (Below.refl _ _).alloc (Nat.le_refl _) _⟩
  · clear hn hx
    go_enter Tryz.func69, Tryz.ntmps69
    go_wp2
    go_ret2
    exact ⟨rfl, (Below.refl _ _).alloc (Nat.le_refl _) _⟩
end Go.Proofs.YtgdkjkfbknbgkaaGreatDoor
namespace Go.Proofs.YtgdkjkfbknbgkaaGreatDoor
open Go Go.RowKit
attribute [local go_sem] Oper.semAt_some

/-- A value of the reference. -/
abbrev RV (x : Vt) (p : Option Addr) : Value := .agg #[.int .i64 x.1, .int .i64 x.2.1, .string x.2.2, .pointer p]
set_option maxHeartbeats 1000000 in
set_option maxRecDepth 100000 in
theorem prim_any (x : Vt) (p : Option Addr) (w : World) : Calls Tryz.prog 70 #[RV x p] w fun e w' => e = .returned (valV x) ∧ Below w.heap.size w w' := by
  go_enter Tryz.func70, Tryz.ntmps70
  go_wp2
  refine bodyPost_ret (v := valV x) (by simp [results, Tryz.results70, go_sem]) rfl ⟨rfl, ?_⟩
  repeat (first | (with_reducible exact Below.refl _ _) | (with_reducible refine M.blw_alloc _ ?_) | (refine Below.setCell (p := ⟨_, _, none⟩) ?_ (by simp; try omega) _))
set_option maxHeartbeats 1000000 in
set_option maxRecDepth 100000 in
theorem rtxt_any (x : Vt) (p : Option Addr) (hx : WV x.1 x.2.1 x.2.2) (w : World) (hT : M.Tb w) : Calls Tryz.prog 32 #[RV x p] w fun e w' => e = .returned (.agg #[.int .i64 7, .int .i64 0, .string (textT x).1]) ∧ Below w.heap.size w w' := by
  have HT := Veil.mk (fun W (hb : Below w.heap.size w W) => rtext_any x hx W (hT.on hb))
  have HP := Veil.mk (prim_any x p)
  clear hT hx
  go_enter Tryz.func32, Tryz.ntmps32
  go_wp2_with (first | (go_at_call 70; ((with_reducible refine (HP.out _).mono ?_); rintro e w1 ⟨rfl, hb1⟩)) | (go_at_call 69; ((with_reducible refine (HT.out _ (by repeat (first | (with_reducible assumption) | (with_reducible exact Below.refl _ _) | (with_reducible refine M.blw_alloc _ ?_) | (with_reducible refine M.blw_call ?_ (by assumption))))).mono ?_); rintro e w2 ⟨rfl, hb2⟩; refine Hid.out ?_)))
  have hbx := hb1.trans (hb2.mono hb1.size)
  obtain ⟨hc, hf⟩ : (∀ o, w2.cell? ⟨w.heap.size + 1, o, none⟩ = ((w.alloc (.cells #[.int .i64 x.1, .int .i64 x.2.1, .string x.2.2, .pointer p] 33)).alloc (.cells #[.int .i64 0, .int .i64 0, .string ⟨#[]⟩] 30)).cell? ⟨w.heap.size + 1, o, none⟩) ∧ (∀ o, w2.frozen? ⟨w.heap.size + 1, o, none⟩ = ((w.alloc (.cells #[.int .i64 x.1, .int .i64 x.2.1, .string x.2.2, .pointer p] 33)).alloc (.cells #[.int .i64 0, .int .i64 0, .string ⟨#[]⟩] 30)).frozen? ⟨w.heap.size + 1, o, none⟩) :=
    ⟨fun o => hbx.cell (p := ⟨w.heap.size + 1, o, none⟩) (by simp), fun o => hbx.frozen (p := ⟨w.heap.size + 1, o, none⟩) (by simp)⟩
  have hB : Below w.heap.size w w2 := (((Below.refl _ _).alloc (Nat.le_refl _) _).alloc (by simp) _).trans (hbx.mono (by simp; omega))
  have hz : w.heap.size + 1 < w2.heap.size := by have := hbx.size; simp at this; omega
  refine Lib.hid ?_
  go_wp2
  refine bodyPost_ret (v := .agg #[.int .i64 7, .int .i64 0, .string (textT x).1]) (by simp [results, Tryz.results32, go_sem, hc]) rfl ⟨rfl, ?_⟩
  repeat (first | (with_reducible assumption) | (refine Below.setCell (p := ⟨_, _, none⟩) ?_ (by first | (simp; done) | (simp; omega) | omega) _))

/-- What is printed of a string of units. -/
def goB (s : ByteArray) : ByteArray := ⟨(W.goL (W.signs (W.unitsS s))).toArray⟩
theorem units_lt (s : ByteArray) : ∀ u ∈ W.unitsS s, u < 65536 := by
  have : ∀ (l : List UInt8), ∀ u ∈ W.units l, u < 65536 := fun l => by
    induction l using W.units.induct with
    | case1 a b r ih =>
      intro u hu
      simp only [W.units, List.mem_cons] at hu
      rcases hu with rfl | hu
      · have := a.toNat_lt; have := b.toNat_lt; omega
      · exact ih u hu
    | case2 l h => intro u hu; simp [W.units] at hu
  exact this _
theorem list_b (s : ByteArray) (hs : s.size ≤ 6000) (w : World) : Calls Tryz.prog 30 #[.string s] w fun e w' => (∃ a c, e = .returned (.slice a (W.unitsS s).length c) ∧ W.Nums .i64 w' a (W.unitsS s).length (W.unitsS s)) ∧ Below w.heap.size w w' :=
  (W.list_any s (by omega) w).mono fun e w' ⟨v, he, hown, hb⟩ => by
    obtain ⟨a, c, rfl, hn⟩ := W.own_nums hown
    exact ⟨⟨a, c, he, hn⟩, hb⟩
theorem rgo_b (s : ByteArray) (hs : s.size ≤ 6000) (a : Option Addr) (c : Nat) (w : World) (h : W.Nums .i64 w a (W.unitsS s).length (W.unitsS s)) : Calls Tryz.prog 29 #[.slice a (W.unitsS s).length c] w fun e w' => e = .returned (.string (goB s)) ∧ Below w.heap.size w w' :=
  W.refGo_any a _ c _ (by rw [W.unitsS_length]; omega) (units_lt s) w h
set_option maxHeartbeats 1000000 in
set_option maxRecDepth 100000 in
theorem rshow_empty (x : Vt) (p : Option Addr) (d : Int) (h : x.1 = 10) (w : World) : Calls Tryz.prog 12 #[RV x p, .int .i64 d] w fun e w' => e = .returned (.string ⟨#[]⟩) ∧ Below w.heap.size w w' := by
  obtain ⟨k, n, s⟩ := x
  simp only at h
  subst h
  go_enter Tryz.func12, Tryz.ntmps12
  go_wp2
  go_ret
  exact ⟨rfl, by repeat (first | (with_reducible assumption) | (with_reducible exact Below.refl _ _) | (with_reducible refine M.blw_alloc _ ?_) | (with_reducible refine M.blw_call ?_ (by assumption)))⟩
set_option maxHeartbeats 1000000 in
set_option maxRecDepth 100000 in
theorem rshow_leaf (x : Vt) (p : Option Addr) (d : Int) (e10 : (x.1 == 10) = false) (e8 : (x.1 == 8) = false) (e9 : (x.1 == 9) = false) (hx : WV x.1 x.2.1 x.2.2) (hs : (textT x).1.size ≤ 6000) (w : World) (hT : M.Tb w) : Calls Tryz.prog 12 #[RV x p, .int .i64 d] w fun e w' => e = .returned (.string (goB (textT x).1)) ∧ Below w.heap.size w w' := by
  have HT := Veil.mk (fun W (hb : Below w.heap.size w W) => rtxt_any x p hx W (hT.on hb))
  generalize (textT x).1 = t at HT hs
  have HL := Veil.mk (list_b t hs)
  have HG := Veil.mk (rgo_b t hs)
  have hfd : ∀ w : World, (Instr.field 30 (.agg #[.int .i64 7, .int .i64 0, .string t]) 2).run Tryz.prog w = .ok (.string t) w := fun _ => by kernel_rfl
  clear hT hx hs
  go_enter Tryz.func12, Tryz.ntmps12
  go_wp2_with (first | (go_at_call 32; ((with_reducible refine (HT.out _ (by repeat (first | (with_reducible assumption) | (with_reducible exact Below.refl _ _) | (with_reducible refine M.blw_alloc _ ?_) | (with_reducible refine M.blw_call ?_ (by assumption))))).mono ?_); rintro e w1 ⟨rfl, hb1⟩)) | (go_at_call 30; ((with_reducible refine (HL.out _).mono ?_); rintro e w2 ⟨⟨la, lc, rfl, hN⟩, hb2⟩; have HN := Veil.mk hN; clear hN)) | (go_at_call 29; ((with_reducible refine (HG.out _ _ _ HN.out).mono ?_); rintro e w3 ⟨rfl, hb3⟩)))
  go_ret
  exact ⟨rfl, by repeat (first | (with_reducible assumption) | (with_reducible exact Below.refl _ _) | (with_reducible refine M.blw_alloc _ ?_) | (with_reducible refine M.blw_call ?_ (by assumption)))⟩
end Go.Proofs.YtgdkjkfbknbgkaaGreatDoor
