/- The laws' common start: Right at the code of two instructions; the example holds. -/
import Derived.Test.YtbkgophgclpijaaDoorVa
import Derived.LoopN
import Derived.Deep.DeepCutAuto
namespace Go.Proofs.YtbkgophgclpijaaDoor
open Go.RowKit

theorem right_plain (op : Int) (hop : op = 2 ∨ op = 61) (p : Option Addr) (w : World) :
    Calls Tryd.prog 57 #[.pointer p, .agg #[.int .i64 op, .int .i64 0, .int .i64 0]] w fun e w' => e = .returned (.bool true) ∧ w.alloc (.cells #[.int .i64 op, .int .i64 0, .int .i64 0] 61) = w' := by
  rcases hop with rfl | rfl
  all_goals
    go_enter Tryd.func57, Tryd.ntmps57
    go_wp2
    go_ret
    exact ⟨rfl, rfl⟩

set_option maxRecDepth 100000 in
theorem right_two (b a : Nat) (w : World) (hI : w.cell? ⟨b, 8, none⟩ = some (.slice (some ⟨a, 0, none⟩) 2 2)) (hF : w.cell? ⟨b, 10, none⟩ = some (.slice none 0 0))
    (c0 : w.cell? ⟨a, 0, none⟩ = some (.int .i64 2)) (c1 : w.cell? ⟨a, 1, none⟩ = some (.int .i64 0)) (c2 : w.cell? ⟨a, 2, none⟩ = some (.int .i64 0))
    (c3 : w.cell? ⟨a, 3, none⟩ = some (.int .i64 61)) (c4 : w.cell? ⟨a, 4, none⟩ = some (.int .i64 0)) (c5 : w.cell? ⟨a, 5, none⟩ = some (.int .i64 0)) :
    Calls Tryd.prog 33 #[.pointer (some ⟨b, 0, none⟩)] w fun e w' => e = .returned (.bool true) ∧ Below w.heap.size w w' := by
  have hb : b < w.heap.size := World.block_lt_of_cell? _ _ hI
  have ha : a < w.heap.size := World.block_lt_of_cell? _ _ c0
  go_enter Tryd.func33, Tryd.ntmps33
  go_wp2
  go_quiet (fail)
  obtain ⟨w1, hw1⟩ : ∃ w1, w1 = w.drewN nq := ⟨_, rfl⟩
  have hB : Below w.heap.size w w1 := hw1 ▸ below_drewN (Below.refl _ _) nq
  have hz : w1.heap.size = w.heap.size := by rw [hw1]; rfl
  rw [← hw1]
  replace hI : w1.cell? ⟨b, 8, none⟩ = some (.slice (some ⟨a, 0, none⟩) 2 2) := hw1 ▸ hI
  replace hF : w1.cell? ⟨b, 10, none⟩ = some (.slice none 0 0) := hw1 ▸ hF
  replace c0 : w1.cell? ⟨a, 0, none⟩ = some (.int .i64 2) := hw1 ▸ c0
  replace c1 : w1.cell? ⟨a, 1, none⟩ = some (.int .i64 0) := hw1 ▸ c1
  replace c2 : w1.cell? ⟨a, 2, none⟩ = some (.int .i64 0) := hw1 ▸ c2
  replace c3 : w1.cell? ⟨a, 3, none⟩ = some (.int .i64 61) := hw1 ▸ c3
  replace c4 : w1.cell? ⟨a, 4, none⟩ = some (.int .i64 0) := hw1 ▸ c4
  replace c5 : w1.cell? ⟨a, 5, none⟩ = some (.int .i64 0) := hw1 ▸ c5
  rw [← hz] at hb ha
  have HZ := Lib.hid hz
  clear hz hw1
  go_wp2
  refine wp_loop_rounds 3 ?_
  rw [rounds_succ]
  go_wp2_with (first | (go_at_call 57; ((with_reducible refine (right_plain 2 (Or.inl rfl) _ _).mono ?_); rintro e w' ⟨rfl, rfl⟩)) | (go_at_call 57; ((with_reducible refine (right_plain 61 (Or.inr rfl) _ _).mono ?_); rintro e w' ⟨rfl, rfl⟩)))
  rw [rounds_succ]
  go_wp2_with (first | (go_at_call 57; ((with_reducible refine (right_plain 2 (Or.inl rfl) _ _).mono ?_); rintro e w' ⟨rfl, rfl⟩)) | (go_at_call 57; ((with_reducible refine (right_plain 61 (Or.inr rfl) _ _).mono ?_); rintro e w' ⟨rfl, rfl⟩)))
  have hF4 : ((((w1.alloc (.cells #[.int .i64 2, .int .i64 0, .int .i64 0] 61)).alloc (.cells #[.int .i64 2, .int .i64 0, .int .i64 0] 61)).alloc (.cells #[.int .i64 61, .int .i64 0, .int .i64 0] 61)).alloc (.cells #[.int .i64 61, .int .i64 0, .int .i64 0] 61)).cell? ⟨b, 10, none⟩ = some (.slice none 0 0) := by
    rw [World.cell?_alloc_lt _ _ _ (by simp; omega), World.cell?_alloc_lt _ _ _ (by simp; omega), World.cell?_alloc_lt _ _ _ (by simp; omega), World.cell?_alloc_lt _ _ _ (by simp; omega)]; exact hF
  rw [rounds_succ]
  go_wp2
  refine wp_loop_rounds 1 ?_
  rw [rounds_succ]
  go_wp2
  go_ret
  exact ⟨rfl, (((hB.alloc hB.size _).alloc (by have := hB.size; simp; omega) _).alloc (by have := hB.size; simp; omega) _).alloc (by have := hB.size; simp; omega) _⟩

theorem fit_op (w : World) (hT : Tb w) : Calls Tryd.prog 54 #[.int .i64 9] w fun e w' => e = .returned (.string ⟨#[61, 61, 61]⟩) ∧ Below w.heap.size w w' := operator_in 9 (by omega) w hT
theorem fit_ops (w : World) (hT : Tb w) : Calls Tryd.prog 55 #[.string ⟨#[37]⟩] w fun e w' => e = .returned (.int .i64 4) ∧ Below w.heap.size w w' := operators_hit 4 (by omega) w hT
theorem blw_alloc {B : Nat} {w w1 : World} (o : Obj) (h : Below B w w1) (hB : B = w.heap.size) : Below B w (w1.alloc o) := h.alloc (by have := h.size; omega) o
theorem cell_later {B b o : Nat} {w w1 : World} {v : Value} (hb : Below B w w1) (h : w.cell? ⟨b, o, none⟩ = some v) (hB : w.heap.size ≤ B) : w1.cell? ⟨b, o, none⟩ = some v := by
  rw [hb.cell (p := ⟨b, o, none⟩) (by have := World.block_lt_of_cell? _ _ h; simp at this ⊢; omega)]; exact h

set_option maxRecDepth 100000 in
theorem fit_any (w : World) (hT : Tb w) : Calls Tryd.prog 29 #[] w fun e w' => e = .returned (.bool true) ∧ Below w.heap.size w w' := by
  have hB0 : Below w.heap.size w ((w.alloc (.cells #[.int .i64 2, .int .i64 0, .int .i64 0, .int .i64 61, .int .i64 0, .int .i64 0] 61)).alloc (.cells #[.string ⟨#[]⟩, .int .i64 0, .int .i64 0, .bool false, .bool false, .bool false, .bool false, .bool false, .slice (some ⟨w.heap.size, 0, none⟩) 2 2, .slice none 0 0, .slice none 0 0] 53)) :=
    ((Below.refl _ _).alloc (Nat.le_refl _) _).alloc (by simp) _
  obtain ⟨W2, hW2⟩ : ∃ W2, W2 = ((w.alloc (.cells #[.int .i64 2, .int .i64 0, .int .i64 0, .int .i64 61, .int .i64 0, .int .i64 0] 61)).alloc (.cells #[.string ⟨#[]⟩, .int .i64 0, .int .i64 0, .bool false, .bool false, .bool false, .bool false, .bool false, .slice (some ⟨w.heap.size, 0, none⟩) 2 2, .slice none 0 0, .slice none 0 0] 53)) := ⟨_, rfl⟩
  have hT2 := hT.on hB0
  have d0 : W2.cell? ⟨w.heap.size + 1, 8, none⟩ = some (.slice (some ⟨w.heap.size, 0, none⟩) 2 2) := by rw [hW2]; simp
  have d1 : W2.cell? ⟨w.heap.size + 1, 10, none⟩ = some (.slice none 0 0) := by rw [hW2]; simp
  have d2 : W2.cell? ⟨w.heap.size, 0, none⟩ = some (.int .i64 2) := by rw [hW2]; simp
  have d3 : W2.cell? ⟨w.heap.size, 1, none⟩ = some (.int .i64 0) := by rw [hW2]; simp
  have d4 : W2.cell? ⟨w.heap.size, 2, none⟩ = some (.int .i64 0) := by rw [hW2]; simp
  have d5 : W2.cell? ⟨w.heap.size, 3, none⟩ = some (.int .i64 61) := by rw [hW2]; simp
  have d6 : W2.cell? ⟨w.heap.size, 4, none⟩ = some (.int .i64 0) := by rw [hW2]; simp
  have d7 : W2.cell? ⟨w.heap.size, 5, none⟩ = some (.int .i64 0) := by rw [hW2]; simp
  have D := Lib.hid (And.intro d0 (And.intro d1 (And.intro d2 (And.intro d3 (And.intro d4 (And.intro d5 (And.intro d6 d7)))))))
  clear d0 d1 d2 d3 d4 d5 d6 d7
  rw [← hW2] at hB0 hT2
  have HW := Lib.hid hW2.symm
  clear hW2
  go_enter Tryd.func29, Tryd.ntmps29
  go_upto_region 2 with (fail)
  rw [HW.out]
  go_wp2_with (first | (go_at_call 54; ((with_reducible refine (fit_op _ hT2).mono ?_); rintro e wa ⟨rfl, hb1⟩)) | (go_at_call 55; ((with_reducible refine (fit_ops _ (hT2.on hb1)).mono ?_); rintro e wb ⟨rfl, hb2⟩; refine Hid.out ?_)))
  have hb := blw2 hb1 hb2
  obtain ⟨d0, d1, d2, d3, d4, d5, d6, d7⟩ := D.out
  have hR := right_two (w.heap.size + 1) w.heap.size wb (cell_later hb d0 (Nat.le_refl _)) (cell_later hb d1 (Nat.le_refl _)) (cell_later hb d2 (Nat.le_refl _)) (cell_later hb d3 (Nat.le_refl _)) (cell_later hb d4 (Nat.le_refl _)) (cell_later hb d5 (Nat.le_refl _)) (cell_later hb d6 (Nat.le_refl _)) (cell_later hb d7 (Nat.le_refl _))
  clear d0 d1 d2 d3 d4 d5 d6 d7
  refine Lib.hid ?_
  go_wp2_with (first | (go_at_call 33; ((with_reducible refine hR.mono ?_); rintro e wc ⟨rfl, hb3⟩)))
  go_ret
  exact ⟨rfl, hB0.trans ((blw2 hb hb3).mono hB0.size)⟩
end Go.Proofs.YtbkgophgclpijaaDoor
