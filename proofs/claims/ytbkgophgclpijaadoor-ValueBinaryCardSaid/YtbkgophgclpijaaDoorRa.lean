/- CodeRight, under way: what an instruction tells is there (contracts of isTarget and right at every instruction). -/
import Derived.Test.YtbkgophgclpijaaDoorVb
namespace Go.Proofs.YtbkgophgclpijaaDoor
open Go.RowKit

def tgt (n : Nat) (a : Int) : Bool := decide (-1 ≤ a) && decide (a < (n : Int))
def idxIn (n : Nat) (a : Int) : Bool := decide (0 ≤ a) && decide (a < (n : Int))
/-- What may be told: jumps within the code, constants and functions that are there, an operation that has a number. -/
def rightI (n c k : Nat) (op a b : Int) : Bool :=
  if op = 36 ∨ op = 37 ∨ op = 38 ∨ op = 39 ∨ op = 40 ∨ op = 41 ∨ op = 63 ∨ op = 64 ∨ op = 74 then tgt n a
  else if op = 68 then tgt n a && tgt n b
  else if op = 1 ∨ op = 14 ∨ op = 15 ∨ op = 19 ∨ op = 21 ∨ op = 23 ∨ op = 25 ∨ op = 88 then idxIn c a
  else if op = 50 then idxIn k a
  else decide (1 ≤ op) && decide (op ≤ 88)

theorem isTarget_any (b : Nat) (a : Int) (n : Nat) (ai : Option Addr) (ci : Nat) (w : World) (hI : w.cell? ⟨b, 8, none⟩ = some (.slice ai n ci)) :
    Calls Tryd.prog 73 #[.pointer (some ⟨b, 0, none⟩), .int .i64 a] w fun e w' => e = .returned (.bool (tgt n a)) ∧ w = w' := by
  by_cases h1 : -1 ≤ a
  · by_cases h2 : a < (n : Int)
    · have HE : Hid (tgt n a = true) := by show _ = _; simp [tgt, h1, h2]
      go_enter Tryd.func73, Tryd.ntmps73
      go_wp2
      go_ret
      exact ⟨by rw [HE.out]; rfl, rfl⟩
    · have HE : Hid (tgt n a = false) := by show _ = _; simp [tgt, h2]
      go_enter Tryd.func73, Tryd.ntmps73
      go_wp2
      go_ret
      exact ⟨by rw [HE.out]; rfl, rfl⟩
  · have HE : Hid (tgt n a = false) := by show _ = _; simp [tgt, h1]
    go_enter Tryd.func73, Tryd.ntmps73
    go_wp2
    go_ret
    exact ⟨by rw [HE.out]; rfl, rfl⟩

set_option maxRecDepth 100000 in
set_option maxHeartbeats 8000000 in
theorem right_any (b : Nat) (op x y : Int) (n c k : Nat) (ai ac af : Option Addr) (ci cc cf : Nat) (w : World) (hI : w.cell? ⟨b, 8, none⟩ = some (.slice ai n ci)) (hC : w.cell? ⟨b, 9, none⟩ = some (.slice ac c cc)) (hF : w.cell? ⟨b, 10, none⟩ = some (.slice af k cf)) :
    Calls Tryd.prog 57 #[.pointer (some ⟨b, 0, none⟩), .agg #[.int .i64 op, .int .i64 x, .int .i64 y]] w fun e w' => e = .returned (.bool (rightI n c k op x y)) ∧ Below w.heap.size w w' := by
  have hb : b < w.heap.size := World.block_lt_of_cell? _ _ hI
  have hB : Below w.heap.size w (w.alloc (.cells #[.int .i64 op, .int .i64 x, .int .i64 y] 61)) := (Below.refl _ _).alloc (Nat.le_refl _) _
  have hI2 := (hB.cell (p := (⟨b, 8, none⟩ : Addr)) hb).trans hI
  have hC2 := (hB.cell (p := (⟨b, 9, none⟩ : Addr)) hb).trans hC
  have hF2 := (hB.cell (p := (⟨b, 10, none⟩ : Addr)) hb).trans hF
  have hT := fun (a : Int) => isTarget_any b a n ai ci _ hI2
  by_cases g1 : op = 36 ∨ op = 37 ∨ op = 38 ∨ op = 39 ∨ op = 40 ∨ op = 41 ∨ op = 63 ∨ op = 64 ∨ op = 74
  · have HE : Hid (rightI n c k op x y = tgt n x) := by show _ = _; unfold rightI; rw [if_pos g1]
    rcases g1 with rfl | rfl | rfl | rfl | rfl | rfl | rfl | rfl | rfl
    all_goals
      go_enter Tryd.func57, Tryd.ntmps57
      go_wp2_with (first | (go_at_call 73; ((with_reducible refine (hT x).mono ?_); rintro e w1 ⟨rfl, rfl⟩)))
      go_ret
      exact ⟨by rw [HE.out]; rfl, hB⟩
  by_cases g2 : op = 68
  · subst g2
    by_cases t1 : tgt n x = true
    · have HE : Hid (rightI n c k 68 x y = tgt n y) := by show _ = _; unfold rightI; rw [if_neg g1, if_pos rfl, t1]; rfl
      have hTx : ∀ a, a = x → Calls Tryd.prog 73 #[.pointer (some ⟨b, 0, none⟩), .int .i64 a] (w.alloc (.cells #[.int .i64 68, .int .i64 x, .int .i64 y] 61)) fun e w' => e = .returned (.bool true) ∧ (w.alloc (.cells #[.int .i64 68, .int .i64 x, .int .i64 y] 61)) = w' := fun a ha => by
        subst ha; have := hT a; rw [t1] at this; exact this
      go_enter Tryd.func57, Tryd.ntmps57
      go_wp2_with (first | (go_at_call 73; first | ((with_reducible refine (hTx x rfl).mono ?_); rintro e w1 ⟨rfl, rfl⟩) | ((with_reducible refine (hT y).mono ?_); rintro e w1 ⟨rfl, rfl⟩)))
      go_ret
      exact ⟨by rw [HE.out]; rfl, hB⟩
    · have t2 : tgt n x = false := by simpa using t1
      have HE : Hid (rightI n c k 68 x y = false) := by show _ = _; unfold rightI; rw [if_neg g1, if_pos rfl, t2]; rfl
      have hTx := hT x
      rw [t2] at hTx
      go_enter Tryd.func57, Tryd.ntmps57
      go_wp2_with (first | (go_at_call 73; first | ((with_reducible refine hTx.mono ?_); rintro e w1 ⟨rfl, rfl⟩)))
      go_ret
      exact ⟨by rw [HE.out]; rfl, hB⟩
  by_cases g3 : op = 1 ∨ op = 14 ∨ op = 15 ∨ op = 19 ∨ op = 21 ∨ op = 23 ∨ op = 25 ∨ op = 88
  · have HE : Hid (rightI n c k op x y = idxIn c x) := by show _ = _; unfold rightI; rw [if_neg g1, if_neg g2, if_pos g3]
    have hx : (0 ≤ x ∧ x < (c : Int)) ∨ (0 ≤ x ∧ ¬ x < (c : Int)) ∨ ¬ 0 ≤ x := by omega
    rcases hx with ⟨x1, x2⟩ | ⟨x1, x2⟩ | x1
    case' inr.inr => have x2 : decide (0 ≤ x) = false := by simpa using x1
    all_goals
      have HV := HE.out
      simp [idxIn, x1, x2] at HV
      replace HE := Lib.hid HV
      clear HV
      rcases g3 with rfl | rfl | rfl | rfl | rfl | rfl | rfl | rfl
      all_goals
        go_enter Tryd.func57, Tryd.ntmps57
        go_wp2
        go_quiet (fail)
        go_wp2
        go_ret
        exact ⟨by rw [HE.out]; first | rfl | (simp [x2]; done) | (simp [x1]; done), below_drewN hB _⟩
  by_cases g4 : op = 50
  · have HE : Hid (rightI n c k op x y = idxIn k x) := by show _ = _; unfold rightI; rw [if_neg g1, if_neg g2, if_neg g3, if_pos g4]
    have hx : (0 ≤ x ∧ x < (k : Int)) ∨ (0 ≤ x ∧ ¬ x < (k : Int)) ∨ ¬ 0 ≤ x := by omega
    subst g4
    rcases hx with ⟨x1, x2⟩ | ⟨x1, x2⟩ | x1
    case' inr.inr => have x2 : decide (0 ≤ x) = false := by simpa using x1
    all_goals
      have HV := HE.out
      simp [idxIn, x1, x2] at HV
      replace HE := Lib.hid HV
      clear HV
      go_enter Tryd.func57, Tryd.ntmps57
      go_wp2
      go_quiet (fail)
      go_wp2
      go_ret
      exact ⟨by rw [HE.out]; first | rfl | (simp [x2]; done) | (simp [x1]; done), below_drewN hB _⟩
  have HE : Hid (rightI n c k op x y = (decide (1 ≤ op) && decide (op ≤ 88))) := by show _ = _; unfold rightI; rw [if_neg g1, if_neg g2, if_neg g3, if_neg g4]
  simp only [not_or] at g1 g3
  obtain ⟨a1, a2, a3, a4, a5, a6, a7, a8, a9⟩ := g1
  obtain ⟨c1, c2, c3, c4, c5, c6, c7, c8⟩ := g3
  have hx : (1 ≤ op ∧ op ≤ 88) ∨ (1 ≤ op ∧ ¬ op ≤ 88) ∨ ¬ 1 ≤ op := by omega
  rcases hx with ⟨x1, x2⟩ | ⟨x1, x2⟩ | x1
  case' inr.inr => have x2 : decide (1 ≤ op) = false := by simpa using x1
  all_goals
    have HV := HE.out
    simp [x1, x2] at HV
    replace HE := Lib.hid HV
    clear HV
    go_enter Tryd.func57, Tryd.ntmps57
    go_wp2
    go_ret
    exact ⟨by rw [HE.out]; rfl, hB⟩
end Go.Proofs.YtbkgophgclpijaaDoor
