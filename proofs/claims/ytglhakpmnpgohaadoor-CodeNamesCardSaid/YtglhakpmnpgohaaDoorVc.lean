/- CodeOperators: operators have their numbers, and only they. -/
import Derived.Test.YtglhakpmnpgohaaDoorVb
namespace Go.Proofs.YtglhakpmnpgohaaDoor
open Go.RowKit

theorem texts_any (w : World) : Calls Tryd.prog 8 #[] w fun e w' => e = .returned (.slice (some ⟨w.heap.size, 0, none⟩) 11 11) ∧ w.alloc (.cells opsC 9) = w' := by
  go_enter Tryd.func8, Tryd.ntmps8
  go_wp2
  go_ret
  exact ⟨rfl, rfl⟩

/-- The text of the operator with a number, as far as the loop has come. -/
def wantAt (nn : Option Nat) (j : Nat) : ByteArray := match nn with | some N => if N < j then opS N else ⟨#[]⟩ | none => ⟨#[]⟩
/-- The number of an operator, as far as the loop has come. -/
def kAt (kk : Option Nat) (j : Nat) : Int := match kk with | some K => if K < j then (K : Int) else -1 | none => -1
theorem wantAt_hit (j : Nat) : wantAt (some j) (j + 1) = opS j := by simp [wantAt]
theorem wantAt_miss (nn : Option Nat) (j : Nat) (h : ¬ nn = some j) : wantAt nn (j + 1) = wantAt nn j := by
  cases nn with
  | none => rfl
  | some N =>
    have : ¬ N = j := fun e => h (by rw [e])
    simp only [wantAt]
    by_cases hl : N < j
    · rw [if_pos hl, if_pos (by omega)]
    · rw [if_neg hl, if_neg (by omega)]
theorem kAt_hit (j : Nat) : kAt (some j) (j + 1) = (j : Int) := by simp [kAt]
theorem kAt_miss (kk : Option Nat) (j : Nat) (h : ¬ kk = some j) : kAt kk (j + 1) = kAt kk j := by
  cases kk with
  | none => rfl
  | some N =>
    have : ¬ N = j := fun e => h (by rw [e])
    simp only [kAt]
    by_cases hl : N < j
    · rw [if_pos hl, if_pos (by omega)]
    · rw [if_neg hl, if_neg (by omega)]
theorem ret_slot (a b : ByteArray) (h : a = b) : Value.string a = Value.string b := by rw [h]
theorem ret_num (a b : Int) (h : a = b) : Value.int .i64 a = Value.int .i64 b := by rw [h]

set_option maxRecDepth 100000 in
set_option maxHeartbeats 2000000 in
theorem ops_core (n : Int) (s x : ByteArray) (kv : Int) (nn kk : Option Nat) (hn : ∀ j : Nat, j < 11 → ((j : Int) == n) = decide (nn = some j)) (hs : ∀ j : Nat, j < 11 → (opS j == s) = decide (kk = some j))
    (hx : wantAt nn 11 = x) (hk : kAt kk 11 = kv)
    (HO : ∀ W, Tb W → Calls Tryd.prog 9 #[.int .i64 n] W fun e w' => e = .returned (.string x) ∧ Below W.heap.size W w')
    (HP : ∀ W, Tb W → Calls Tryd.prog 10 #[.string s] W fun e w' => e = .returned (.int .i64 kv) ∧ Below W.heap.size W w')
    (hq : kv < 0 ∨ (0 ≤ kv ∧ ∀ W, Tb W → Calls Tryd.prog 9 #[.int .i64 kv] W fun e w' => e = .returned (.string s) ∧ Below W.heap.size W w'))
    (w : World) (hT : Tb w) :
    Calls Tryd.prog 3 #[.int .i64 n, .string s] w fun e w' => e = .returned (.bool true) ∧ Below w.heap.size w w' := by
  have HN := Lib.hid hn
  have HS := Lib.hid hs
  have HX := Lib.hid hx
  have HK := Lib.hid hk
  clear hn hs hx hk
  go_enter Tryd.func3, Tryd.ntmps3
  go_wp2_with (first | (go_at_call 7; ((with_reducible refine (fit_any _ hT).mono ?_); rintro e w1 ⟨rfl, hb1⟩)) | (go_at_call 8; ((with_reducible refine (texts_any _).mono ?_); rintro e w2 ⟨rfl, rfl⟩)))
  have hB : Below w.heap.size w (w1.alloc (.cells opsC 9)) := hb1.alloc hb1.size _
  have HCS : Hid (∀ j, j < 11 → (w1.alloc (.cells opsC 9)).cell? ⟨w1.heap.size, j, none⟩ = some (.string (opS j))) := fun j hj => by rw [World.cell?_alloc_at _ _ _ _ rfl]; exact opsC_at j hj
  obtain ⟨W, hW⟩ : ∃ W, W = w1.alloc (.cells opsC 9) := ⟨_, rfl⟩
  rw [← hW] at hB HCS ⊢
  have hTW := hT.on hB
  clear hW
  go_loop [5, 6, 13] (fun a k i => ∃ j : Nat, j ≤ 11 ∧ i = .int .i64 (j : Int) ∧ a = .string (wantAt nn j) ∧ k = .int .i64 (kAt kk j)) (fun _ _ i => 11 - (intOf i).toNat)
  case atStart =>
    refine ⟨0, by omega, rfl, ret_slot _ _ ?_, ret_num _ _ ?_⟩
    · cases nn <;> simp [wantAt]
    · cases kk <;> simp [kAt]
  case round =>
    obtain ⟨j, hj, rfl, rfl, rfl⟩ := hrel
    by_cases hj2 : j < 11
    · have hj1 : (j : Int) < 11 := by omega
      have hcell := HCS.out j hj2
      have h1 := HN.out j hj2
      have h2 := HS.out j hj2
      have h2b := h2
      rw [beq_toListBytes] at h2b
      obtain ⟨y, hy⟩ : ∃ y, y = opS j := ⟨_, rfl⟩
      have HY := Lib.hid hy
      rw [← hy] at hcell h2 h2b
      clear hy
      obtain ⟨a0, ha0⟩ : ∃ a0, a0 = wantAt nn j := ⟨_, rfl⟩
      obtain ⟨k0, hk0⟩ : ∃ k0, k0 = kAt kk j := ⟨_, rfl⟩
      have HA0 := Lib.hid ha0
      have HK0 := Lib.hid hk0
      rw [← ha0, ← hk0]
      clear ha0 hk0
      by_cases c1 : nn = some j
      all_goals by_cases c2 : kk = some j
      all_goals
        first | rw [decide_eq_true c1] at h1 | rw [decide_eq_false c1] at h1
        first | rw [decide_eq_true c2] at h2 h2b | rw [decide_eq_false c2] at h2 h2b
        have C1 := Lib.hid c1
        have C2 := Lib.hid c2
        clear c1 c2
        go_wp2
        go_round
        case rel =>
          refine ⟨j + 1, by omega, by go_num, ret_slot _ _ ?_, ret_num _ _ ?_⟩
          · first
              | (rw [C1.out, wantAt_hit]; exact HY.out)
              | (rw [wantAt_miss _ _ C1.out]; exact HA0.out)
          · first
              | (rw [C2.out, kAt_hit])
              | (rw [kAt_miss _ _ C2.out]; exact HK0.out)
        case measure => simp [intOf]; omega
    · have hj1 : ¬ (j : Int) < 11 := by omega
      obtain rfl : j = 11 := by omega
      rw [HX.out, HK.out]
      rcases hq with hq | ⟨hq, HQ⟩
      · go_wp2_with (first | (go_at_call 9; ((with_reducible refine (HO _ hTW).mono ?_); rintro e w3 ⟨rfl, hb3⟩)) | (go_at_call 10; ((with_reducible refine (HP _ (hTW.on hb3)).mono ?_); rintro e w4 ⟨rfl, hb4⟩)))
        go_ret
        exact ⟨rfl, hB.trans ((blw2 hb3 hb4).mono hB.size)⟩
      · have hq2 : ¬ kv < 0 := by omega
        go_wp2_with (first | (go_at_call 9; first | ((with_reducible refine (HQ _ ((hTW.on hb3).on hb4)).mono ?_); rintro e w5 ⟨rfl, hb5⟩) | ((with_reducible refine (HO _ hTW).mono ?_); rintro e w3 ⟨rfl, hb3⟩)) | (go_at_call 10; ((with_reducible refine (HP _ (hTW.on hb3)).mono ?_); rintro e w4 ⟨rfl, hb4⟩)))
        go_ret
        exact ⟨rfl, hB.trans ((blw2 (blw2 hb3 hb4) hb5).mono hB.size)⟩
end Go.Proofs.YtglhakpmnpgohaaDoor
