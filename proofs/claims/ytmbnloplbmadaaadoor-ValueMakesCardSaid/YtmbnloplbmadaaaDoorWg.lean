/- ValueMakes: values of cells and truth are what they were made of. -/
import Derived.Test.YtmbnloplbmadaaaDoorWf
namespace Go.Proofs.YtmbnloplbmadaaaDoor
open Go.RowKit

theorem mask16 (n : Int) : ∃ q : Nat, bits .and .i64 n 65535 = (q : Int) ∧ q < 65536 := by
  have h127 : (BitVec.ofInt 64 65535).toNat = 2 ^ 16 - 1 := by decide
  have key : (BitVec.ofInt 64 n &&& BitVec.ofInt 64 65535).toNat = (n % ((2 ^ 64 : Nat) : Int)).toNat % 2 ^ 16 := by
    rw [BitVec.toNat_and, BitVec.toNat_ofInt, h127, Nat.and_two_pow_sub_one_eq_mod]
  refine ⟨(n % 65536).toNat, ?_, by omega⟩
  show IntKind.i64.wrap ((BitVec.ofInt 64 n &&& BitVec.ofInt 64 65535).toNat : Nat) = _
  rw [key, IntKind.wrap_i64]
  omega
theorem true_false (w : World) : Calls Tryd.prog 25 #[V 2 0 e0] w fun e w' => e = .returned (.bool false) ∧ w.alloc (bxs 2 0 e0) = w' := true_bool false w
theorem true_true (w : World) : Calls Tryd.prog 25 #[V 2 1 e0] w fun e w' => e = .returned (.bool true) ∧ w.alloc (bxs 2 1 e0) = w' := true_bool true w
theorem truth_false (w : World) : Calls Tryd.prog 29 #[.bool false] w fun e w' => e = .returned (V 2 0 e0) ∧ w.alloc (bxs 2 0 e0) = w' := truth_any false w
theorem truth_true (w : World) : Calls Tryd.prog 29 #[.bool true] w fun e w' => e = .returned (V 2 1 e0) ∧ w.alloc (bxs 2 1 e0) = w' := truth_any true w

set_option maxRecDepth 100000 in
set_option maxHeartbeats 4000000 in
theorem makes_false (r : Int) (w : World) : Calls Tryd.prog 6 #[.int .i64 r, .bool false] w fun e w' => e = .returned (.bool true) ∧ Below w.heap.size w w' := by
  obtain ⟨q, hbit, hq⟩ := mask16 r
  have hq0 : (0 : Int) ≤ (q : Int) := by omega
  have hq1 : (q : Int) < 65536 := by omega
  go_enter Tryd.func6, Tryd.ntmps6
  go_upto_region 5 with (first | (go_at_call 9; ((with_reducible refine (fit_any _).mono ?_); rintro e w1 ⟨rfl, hb1⟩)) | (go_at_call 27; ((with_reducible refine (object_any _ _).mono ?_); rintro e w' ⟨rfl, rfl⟩)) | (go_at_call 28; ((with_reducible refine (symbol_any _ _).mono ?_); rintro e w' ⟨rfl, rfl⟩)) | (go_at_call 29; ((with_reducible refine (truth_false _).mono ?_); rintro e w' ⟨rfl, rfl⟩)))
  obtain ⟨W3, hW3⟩ : ∃ W3, W3 = ((w1.alloc (bxs 9 ((q : Int) + 1) e0)).alloc (bxs 8 ((q : Int) + 1) e0)).alloc (bxs 2 0 e0) := ⟨_, rfl⟩
  have hsz : w1.heap.size + 1 + 1 + 1 = W3.heap.size := by rw [hW3]; simp
  have hB3 : Below w.heap.size w W3 := by rw [hW3]; exact ((hb1.alloc hb1.size _).alloc (by have := hb1.size; simp; omega) _).alloc (by have := hb1.size; simp; omega) _
  rw [← hW3]
  obtain ⟨W, hW⟩ : ∃ W, W = ((W3.alloc (bxs 9 ((q : Int) + 1) e0)).alloc (bxs 8 ((q : Int) + 1) e0)).alloc (bxs 2 0 e0) := ⟨_, rfl⟩
  have a5 : AtV W (w1.heap.size + 1 + 1 + 1) 9 ((q : Int) + 1) e0 := by rw [hW]; exact ((AtV.new _ _ _ hsz).alloc _).alloc _
  have a6 : AtV W (w1.heap.size + 1 + 1 + 1 + 1) 8 ((q : Int) + 1) e0 := by rw [hW]; exact (AtV.new _ _ _ (by simp [hsz])).alloc _
  have a7 : AtV W (w1.heap.size + 1 + 1 + 1 + 1 + 1) 2 0 e0 := by rw [hW]; exact AtV.new _ _ _ (by simp [hsz])
  have hBW : Below w.heap.size w W := by rw [hW]; exact ((hB3.alloc hB3.size _).alloc (by have := hB3.size; simp; omega) _).alloc (by have := hB3.size; simp; omega) _
  rw [← hW]
  clear hW hW3 hsz hb1 hB3
  go_wp2_with (first | (go_at_call 30; first | ((with_reducible refine (ref_cell 9 ((q : Int) + 1) (Or.inl rfl) _).mono ?_); rintro e w' ⟨rfl, rfl⟩; replace a5 := a5.alloc (bxs 9 ((q : Int) + 1) e0); replace a6 := a6.alloc (bxs 9 ((q : Int) + 1) e0); replace a7 := a7.alloc (bxs 9 ((q : Int) + 1) e0)) | ((with_reducible refine (ref_cell 8 ((q : Int) + 1) (Or.inr rfl) _).mono ?_); rintro e w' ⟨rfl, rfl⟩; replace a5 := a5.alloc (bxs 8 ((q : Int) + 1) e0); replace a6 := a6.alloc (bxs 8 ((q : Int) + 1) e0); replace a7 := a7.alloc (bxs 8 ((q : Int) + 1) e0)) | ((with_reducible refine (ref_bool 0 _).mono ?_); rintro e w' ⟨rfl, rfl⟩; replace a5 := a5.alloc (bxs 2 0 e0); replace a6 := a6.alloc (bxs 2 0 e0); replace a7 := a7.alloc (bxs 2 0 e0))) | (go_at_call 31; first | ((with_reducible refine (isObj_any 9 ((q : Int) + 1) _).mono ?_); rintro e w' ⟨rfl, rfl⟩; replace a5 := a5.alloc (bxs 9 ((q : Int) + 1) e0); replace a6 := a6.alloc (bxs 9 ((q : Int) + 1) e0); replace a7 := a7.alloc (bxs 9 ((q : Int) + 1) e0)) | ((with_reducible refine (isObj_any 8 ((q : Int) + 1) _).mono ?_); rintro e w' ⟨rfl, rfl⟩; replace a5 := a5.alloc (bxs 8 ((q : Int) + 1) e0); replace a6 := a6.alloc (bxs 8 ((q : Int) + 1) e0); replace a7 := a7.alloc (bxs 8 ((q : Int) + 1) e0))) | (go_at_call 25; first | ((with_reducible refine (true_cell 9 ((q : Int) + 1) (Or.inl rfl) _).mono ?_); rintro e w' ⟨rfl, rfl⟩; replace a5 := a5.alloc (bxs 9 ((q : Int) + 1) e0); replace a6 := a6.alloc (bxs 9 ((q : Int) + 1) e0); replace a7 := a7.alloc (bxs 9 ((q : Int) + 1) e0)) | ((with_reducible refine (true_cell 8 ((q : Int) + 1) (Or.inr rfl) _).mono ?_); rintro e w' ⟨rfl, rfl⟩; replace a5 := a5.alloc (bxs 8 ((q : Int) + 1) e0); replace a6 := a6.alloc (bxs 8 ((q : Int) + 1) e0); replace a7 := a7.alloc (bxs 8 ((q : Int) + 1) e0)) | ((with_reducible refine (true_false _).mono ?_); rintro e w' ⟨rfl, rfl⟩; replace a5 := a5.alloc (bxs 2 0 e0); replace a6 := a6.alloc (bxs 2 0 e0); replace a7 := a7.alloc (bxs 2 0 e0))) | (go_at_call 32; first | ((with_reducible refine (nullish_yes 0 (Or.inl rfl) _).mono ?_); rintro e w' ⟨rfl, rfl⟩; replace a5 := a5.alloc (bxs 0 0 e0); replace a6 := a6.alloc (bxs 0 0 e0); replace a7 := a7.alloc (bxs 0 0 e0)) | ((with_reducible refine (nullish_yes 1 (Or.inr rfl) _).mono ?_); rintro e w' ⟨rfl, rfl⟩; replace a5 := a5.alloc (bxs 1 0 e0); replace a6 := a6.alloc (bxs 1 0 e0); replace a7 := a7.alloc (bxs 1 0 e0)) | ((with_reducible refine (nullish_no 9 ((q : Int) + 1) (Or.inl rfl) _).mono ?_); rintro e w' ⟨rfl, rfl⟩; replace a5 := a5.alloc (bxs 9 ((q : Int) + 1) e0); replace a6 := a6.alloc (bxs 9 ((q : Int) + 1) e0); replace a7 := a7.alloc (bxs 9 ((q : Int) + 1) e0)) | ((with_reducible refine (nullish_no 2 0 (Or.inr rfl) _).mono ?_); rintro e w' ⟨rfl, rfl⟩; replace a5 := a5.alloc (bxs 2 0 e0); replace a6 := a6.alloc (bxs 2 0 e0); replace a7 := a7.alloc (bxs 2 0 e0))))
  go_ret
  exact ⟨rfl, by have h0 := hBW.size; repeat (first | (with_reducible assumption) | (refine Below.alloc ?_ (by first | (exact h0) | (simp; omega)) _))⟩

set_option maxRecDepth 100000 in
set_option maxHeartbeats 4000000 in
theorem makes_true (r : Int) (w : World) : Calls Tryd.prog 6 #[.int .i64 r, .bool true] w fun e w' => e = .returned (.bool true) ∧ Below w.heap.size w w' := by
  obtain ⟨q, hbit, hq⟩ := mask16 r
  have hq0 : (0 : Int) ≤ (q : Int) := by omega
  have hq1 : (q : Int) < 65536 := by omega
  go_enter Tryd.func6, Tryd.ntmps6
  go_upto_region 5 with (first | (go_at_call 9; ((with_reducible refine (fit_any _).mono ?_); rintro e w1 ⟨rfl, hb1⟩)) | (go_at_call 27; ((with_reducible refine (object_any _ _).mono ?_); rintro e w' ⟨rfl, rfl⟩)) | (go_at_call 28; ((with_reducible refine (symbol_any _ _).mono ?_); rintro e w' ⟨rfl, rfl⟩)) | (go_at_call 29; ((with_reducible refine (truth_true _).mono ?_); rintro e w' ⟨rfl, rfl⟩)))
  obtain ⟨W3, hW3⟩ : ∃ W3, W3 = ((w1.alloc (bxs 9 ((q : Int) + 1) e0)).alloc (bxs 8 ((q : Int) + 1) e0)).alloc (bxs 2 1 e0) := ⟨_, rfl⟩
  have hsz : w1.heap.size + 1 + 1 + 1 = W3.heap.size := by rw [hW3]; simp
  have hB3 : Below w.heap.size w W3 := by rw [hW3]; exact ((hb1.alloc hb1.size _).alloc (by have := hb1.size; simp; omega) _).alloc (by have := hb1.size; simp; omega) _
  rw [← hW3]
  obtain ⟨W, hW⟩ : ∃ W, W = ((W3.alloc (bxs 9 ((q : Int) + 1) e0)).alloc (bxs 8 ((q : Int) + 1) e0)).alloc (bxs 2 1 e0) := ⟨_, rfl⟩
  have a5 : AtV W (w1.heap.size + 1 + 1 + 1) 9 ((q : Int) + 1) e0 := by rw [hW]; exact ((AtV.new _ _ _ hsz).alloc _).alloc _
  have a6 : AtV W (w1.heap.size + 1 + 1 + 1 + 1) 8 ((q : Int) + 1) e0 := by rw [hW]; exact (AtV.new _ _ _ (by simp [hsz])).alloc _
  have a7 : AtV W (w1.heap.size + 1 + 1 + 1 + 1 + 1) 2 1 e0 := by rw [hW]; exact AtV.new _ _ _ (by simp [hsz])
  have hBW : Below w.heap.size w W := by rw [hW]; exact ((hB3.alloc hB3.size _).alloc (by have := hB3.size; simp; omega) _).alloc (by have := hB3.size; simp; omega) _
  rw [← hW]
  clear hW hW3 hsz hb1 hB3
  go_wp2_with (first | (go_at_call 30; first | ((with_reducible refine (ref_cell 9 ((q : Int) + 1) (Or.inl rfl) _).mono ?_); rintro e w' ⟨rfl, rfl⟩; replace a5 := a5.alloc (bxs 9 ((q : Int) + 1) e0); replace a6 := a6.alloc (bxs 9 ((q : Int) + 1) e0); replace a7 := a7.alloc (bxs 9 ((q : Int) + 1) e0)) | ((with_reducible refine (ref_cell 8 ((q : Int) + 1) (Or.inr rfl) _).mono ?_); rintro e w' ⟨rfl, rfl⟩; replace a5 := a5.alloc (bxs 8 ((q : Int) + 1) e0); replace a6 := a6.alloc (bxs 8 ((q : Int) + 1) e0); replace a7 := a7.alloc (bxs 8 ((q : Int) + 1) e0)) | ((with_reducible refine (ref_bool 1 _).mono ?_); rintro e w' ⟨rfl, rfl⟩; replace a5 := a5.alloc (bxs 2 1 e0); replace a6 := a6.alloc (bxs 2 1 e0); replace a7 := a7.alloc (bxs 2 1 e0))) | (go_at_call 31; first | ((with_reducible refine (isObj_any 9 ((q : Int) + 1) _).mono ?_); rintro e w' ⟨rfl, rfl⟩; replace a5 := a5.alloc (bxs 9 ((q : Int) + 1) e0); replace a6 := a6.alloc (bxs 9 ((q : Int) + 1) e0); replace a7 := a7.alloc (bxs 9 ((q : Int) + 1) e0)) | ((with_reducible refine (isObj_any 8 ((q : Int) + 1) _).mono ?_); rintro e w' ⟨rfl, rfl⟩; replace a5 := a5.alloc (bxs 8 ((q : Int) + 1) e0); replace a6 := a6.alloc (bxs 8 ((q : Int) + 1) e0); replace a7 := a7.alloc (bxs 8 ((q : Int) + 1) e0))) | (go_at_call 25; first | ((with_reducible refine (true_cell 9 ((q : Int) + 1) (Or.inl rfl) _).mono ?_); rintro e w' ⟨rfl, rfl⟩; replace a5 := a5.alloc (bxs 9 ((q : Int) + 1) e0); replace a6 := a6.alloc (bxs 9 ((q : Int) + 1) e0); replace a7 := a7.alloc (bxs 9 ((q : Int) + 1) e0)) | ((with_reducible refine (true_cell 8 ((q : Int) + 1) (Or.inr rfl) _).mono ?_); rintro e w' ⟨rfl, rfl⟩; replace a5 := a5.alloc (bxs 8 ((q : Int) + 1) e0); replace a6 := a6.alloc (bxs 8 ((q : Int) + 1) e0); replace a7 := a7.alloc (bxs 8 ((q : Int) + 1) e0)) | ((with_reducible refine (true_true _).mono ?_); rintro e w' ⟨rfl, rfl⟩; replace a5 := a5.alloc (bxs 2 1 e0); replace a6 := a6.alloc (bxs 2 1 e0); replace a7 := a7.alloc (bxs 2 1 e0))) | (go_at_call 32; first | ((with_reducible refine (nullish_yes 0 (Or.inl rfl) _).mono ?_); rintro e w' ⟨rfl, rfl⟩; replace a5 := a5.alloc (bxs 0 0 e0); replace a6 := a6.alloc (bxs 0 0 e0); replace a7 := a7.alloc (bxs 0 0 e0)) | ((with_reducible refine (nullish_yes 1 (Or.inr rfl) _).mono ?_); rintro e w' ⟨rfl, rfl⟩; replace a5 := a5.alloc (bxs 1 0 e0); replace a6 := a6.alloc (bxs 1 0 e0); replace a7 := a7.alloc (bxs 1 0 e0)) | ((with_reducible refine (nullish_no 9 ((q : Int) + 1) (Or.inl rfl) _).mono ?_); rintro e w' ⟨rfl, rfl⟩; replace a5 := a5.alloc (bxs 9 ((q : Int) + 1) e0); replace a6 := a6.alloc (bxs 9 ((q : Int) + 1) e0); replace a7 := a7.alloc (bxs 9 ((q : Int) + 1) e0)) | ((with_reducible refine (nullish_no 2 1 (Or.inr rfl) _).mono ?_); rintro e w' ⟨rfl, rfl⟩; replace a5 := a5.alloc (bxs 2 1 e0); replace a6 := a6.alloc (bxs 2 1 e0); replace a7 := a7.alloc (bxs 2 1 e0))))
  go_ret
  exact ⟨rfl, by have h0 := hBW.size; repeat (first | (with_reducible assumption) | (refine Below.alloc ?_ (by first | (exact h0) | (simp; omega)) _))⟩
end Go.Proofs.YtmbnloplbmadaaaDoor
