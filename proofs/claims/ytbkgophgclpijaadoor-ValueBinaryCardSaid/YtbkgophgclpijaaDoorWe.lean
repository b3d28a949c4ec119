/- calculate, join and Binary of package value at the values that its laws' example takes. -/
import Derived.Test.YtbkgophgclpijaaDoorWd
namespace Go.Proofs.YtbkgophgclpijaaDoor.W
open Go.RowKit

/-- A value lies in block b, which can be written. -/
abbrev AtV (w : World) (b : Nat) (k n : Int) (s : ByteArray) : Prop := w.cell? ⟨b, 0, none⟩ = some (.int .i64 k) ∧ w.cell? ⟨b, 1, none⟩ = some (.int .i64 n) ∧ w.cell? ⟨b, 2, none⟩ = some (.string s) ∧ w.frozen? ⟨b, 0, none⟩ = false ∧ w.frozen? ⟨b, 1, none⟩ = false ∧ w.frozen? ⟨b, 2, none⟩ = false
theorem AtV.lt {W : World} {b : Nat} {k n : Int} {s : ByteArray} (h : AtV W b k n s) : b < W.heap.size := World.block_lt_of_cell? _ _ h.1
theorem AtV.later {W W1 : World} {b : Nat} {k n : Int} {s : ByteArray} (h : AtV W b k n s) (hb : Below W.heap.size W W1) : AtV W1 b k n s :=
  have hf : ∀ o, W1.frozen? ⟨b, o, none⟩ = W.frozen? ⟨b, o, none⟩ := fun o => hb.frozen (p := ⟨b, o, none⟩) h.lt
  ⟨cell_later hb h.1 (Nat.le_refl _), cell_later hb h.2.1 (Nat.le_refl _), cell_later hb h.2.2.1 (Nat.le_refl _), (hf 0).trans h.2.2.2.1, (hf 1).trans h.2.2.2.2.1, (hf 2).trans h.2.2.2.2.2⟩
theorem AtV.alloc {W : World} {b : Nat} {k n : Int} {s : ByteArray} (h : AtV W b k n s) (o : Obj) : AtV (W.alloc o) b k n s := h.later ((Below.refl _ _).alloc (Nat.le_refl _) o)
theorem AtV.new {W : World} {b : Nat} (k n : Int) (s : ByteArray) (h : b = W.heap.size) : AtV (W.alloc (bxs k n s)) b k n s := by
  subst h
  refine ⟨?_, ?_, ?_, ?_, ?_, ?_⟩ <;> simp

set_option maxRecDepth 100000 in
theorem calculate_fit (w : World) : Calls Tryd.prog 39 #[.string ⟨#[60]⟩, V 0 0 e0, V 3 1 e0] w fun e w' => e = .returned (.tuple #[V 2 0 e0, .int .i64 0]) ∧ Below w.heap.size w w' := by
  go_enter Tryd.func39, Tryd.ntmps39
  go_wp2_with (first | (go_at_call 21; first | ((with_reducible refine (number_undef _).mono ?_); rintro e w1 ⟨rfl, hb1⟩; have b5 : AtV w1 (w.heap.size + 1) 3 1 e0 := AtV.later (AtV.alloc (AtV.new _ _ _ (by simp)) _) hb1; have b6 : AtV w1 (w.heap.size + 1 + 1) 0 0 e0 := AtV.later (AtV.new _ _ _ (by simp)) hb1; have l5 := b5.lt; have l6 := b6.lt) | ((with_reducible refine (number_one _).mono ?_); rintro e w2 ⟨rfl, hb2⟩; have b8 : AtV w2 w1.heap.size 4 0 e0 := AtV.later (AtV.new _ _ _ rfl) hb2; replace b6 := (b6.alloc _).later hb2; have l8 := b8.lt)) | (go_at_call 36; ((with_reducible refine (isOrder_lt _).mono ?_); rintro e w' ⟨rfl, rfl⟩)) | (go_at_call 60; ((with_reducible refine (compare_fit _).mono ?_); rintro e w3 ⟨rfl, hb3⟩; replace b6 := (b6.alloc _).later hb3; have k6 := b6.lt)) | (go_at_call 34; ((with_reducible refine (truth_any false _).mono ?_); rintro e w' ⟨rfl, rfl⟩)))
  have h1 : Below w.heap.size w w1 := ((((Below.refl _ _).alloc (Nat.le_refl _) _).alloc (by simp) _).alloc (by simp; omega) _).trans (hb1.mono (by simp; omega))
  have h2 : Below w.heap.size w w2 := (h1.alloc h1.size _).trans (hb2.mono (by have := h1.size; simp; omega))
  have h3 : Below w.heap.size w w3 := (h2.alloc h2.size _).trans (hb3.mono (by have := h2.size; simp; omega))
  refine bodyPost_ret (v := .tuple #[V 2 0 e0, .int .i64 0]) (by simp [results, Tryd.results39, go_sem, b6, k6]) rfl ⟨rfl, ?_⟩
  have h4 := ((h3.setCell (p := ⟨w.heap.size + 1 + 1, 0, none⟩) (by show w.heap.size ≤ w.heap.size + 1 + 1; omega) (.int .i64 2)).setCell (p := ⟨w.heap.size + 1 + 1, 1, none⟩) (by show w.heap.size ≤ w.heap.size + 1 + 1; omega) (.int .i64 0)).setCell (p := ⟨w.heap.size + 1 + 1, 2, none⟩) (by show w.heap.size ≤ w.heap.size + 1 + 1; omega) (.string e0)
  exact h4.alloc h4.size _

set_option maxRecDepth 100000 in
theorem join_fit (w : World) : Calls Tryd.prog 35 #[V 7 0 ⟨#[0, 97]⟩, V 3 1 e0] w fun e w' => e = .returned (.tuple #[V 7 0 ⟨#[0, 97, 0, 49]⟩, .int .i64 0]) ∧ Below w.heap.size w w' := by
  have hj : ∀ W : World, Calls Tryd.prog 58 #[.string ⟨#[0, 97]⟩, .string ⟨#[0, 49]⟩] W fun e w' => e = .returned (.tuple #[.string ⟨#[0, 97, 0, 49]⟩, .bool true]) ∧ W = w' := fun W => join_in ⟨#[0, 97]⟩ ⟨#[0, 49]⟩ (by decide) (by decide) (by decide) W
  go_enter Tryd.func35, Tryd.ntmps35
  go_wp2_with (first | (go_at_call 23; first | ((with_reducible refine (text_str _ _).mono ?_); rintro e w' ⟨rfl, rfl⟩) | ((with_reducible refine (text_one _).mono ?_); rintro e w2 ⟨rfl, hb2⟩; have b4 : AtV w2 (w.heap.size + 1 + 1) 0 0 e0 := AtV.later (AtV.alloc (AtV.new _ _ _ (by simp)) _) hb2; have l4 := b4.lt)) | (go_at_call 58; ((with_reducible refine (hj _).mono ?_); rintro e w' ⟨rfl, rfl⟩)))
  have h2 : Below w.heap.size w w2 := (((((Below.refl _ _).alloc (Nat.le_refl _) _).alloc (by simp) _).alloc (by simp; omega) _).alloc (by simp; omega) _).trans (hb2.mono (by simp; omega))
  refine bodyPost_ret (v := .tuple #[V 7 0 ⟨#[0, 97, 0, 49]⟩, .int .i64 0]) (by simp [results, Tryd.results35, go_sem, b4]) rfl ⟨rfl, ?_⟩
  exact ((h2.setCell (p := ⟨w.heap.size + 1 + 1, 0, none⟩) (by show w.heap.size ≤ w.heap.size + 1 + 1; omega) _).setCell (p := ⟨w.heap.size + 1 + 1, 1, none⟩) (by show w.heap.size ≤ w.heap.size + 1 + 1; omega) _).setCell (p := ⟨w.heap.size + 1 + 1, 2, none⟩) (by show w.heap.size ≤ w.heap.size + 1 + 1; omega) _

set_option maxRecDepth 100000 in
theorem binary_plus (w : World) : Calls Tryd.prog 12 #[.string ⟨#[43]⟩, V 7 0 ⟨#[0, 97]⟩, V 3 1 e0] w fun e w' => e = .returned (.tuple #[V 7 0 ⟨#[0, 97, 0, 49]⟩, .int .i64 0]) ∧ Below w.heap.size w w' := by
  go_enter Tryd.func12, Tryd.ntmps12
  go_wp2_with (first | (go_at_call 35; ((with_reducible refine (join_fit _).mono ?_); rintro e w2 ⟨rfl, hb2⟩; have b4 : AtV w2 (w.heap.size + 1 + 1) 0 0 e0 := AtV.later (AtV.new _ _ _ (by simp)) hb2; have l4 := b4.lt)))
  have h2 : Below w.heap.size w w2 := ((((Below.refl _ _).alloc (Nat.le_refl _) _).alloc (by simp) _).alloc (by simp; omega) _).trans (hb2.mono (by simp; omega))
  refine bodyPost_ret (v := .tuple #[V 7 0 ⟨#[0, 97, 0, 49]⟩, .int .i64 0]) (by simp [results, Tryd.results12, go_sem, b4]) rfl ⟨rfl, ?_⟩
  exact ((h2.setCell (p := ⟨w.heap.size + 1 + 1, 0, none⟩) (by show w.heap.size ≤ w.heap.size + 1 + 1; omega) _).setCell (p := ⟨w.heap.size + 1 + 1, 1, none⟩) (by show w.heap.size ≤ w.heap.size + 1 + 1; omega) _).setCell (p := ⟨w.heap.size + 1 + 1, 2, none⟩) (by show w.heap.size ≤ w.heap.size + 1 + 1; omega) _

set_option maxRecDepth 100000 in
theorem binary_less (w : World) : Calls Tryd.prog 12 #[.string ⟨#[60]⟩, V 0 0 e0, V 3 1 e0] w fun e w' => e = .returned (.tuple #[V 2 0 e0, .int .i64 0]) ∧ Below w.heap.size w w' := by
  go_enter Tryd.func12, Tryd.ntmps12
  go_wp2_with (first | (go_at_call 39; ((with_reducible refine (calculate_fit _).mono ?_); rintro e w2 ⟨rfl, hb2⟩; have b4 : AtV w2 (w.heap.size + 1 + 1) 0 0 e0 := AtV.later (AtV.new _ _ _ (by simp)) hb2; have l4 := b4.lt)))
  have h2 : Below w.heap.size w w2 := ((((Below.refl _ _).alloc (Nat.le_refl _) _).alloc (by simp) _).alloc (by simp; omega) _).trans (hb2.mono (by simp; omega))
  refine bodyPost_ret (v := .tuple #[V 2 0 e0, .int .i64 0]) (by simp [results, Tryd.results12, go_sem, b4]) rfl ⟨rfl, ?_⟩
  exact ((h2.setCell (p := ⟨w.heap.size + 1 + 1, 0, none⟩) (by show w.heap.size ≤ w.heap.size + 1 + 1; omega) _).setCell (p := ⟨w.heap.size + 1 + 1, 1, none⟩) (by show w.heap.size ≤ w.heap.size + 1 + 1; omega) _).setCell (p := ⟨w.heap.size + 1 + 1, 2, none⟩) (by show w.heap.size ≤ w.heap.size + 1 + 1; omega) _
end Go.Proofs.YtbkgophgclpijaaDoor.W
