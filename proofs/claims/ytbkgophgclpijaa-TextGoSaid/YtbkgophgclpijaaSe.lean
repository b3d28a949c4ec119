/- Sums about strings of units. -/
import Derived.Test.YtbkgophgclpijaaPb
namespace Go.Proofs.Ytbkgophgclpijaa
open Go.RowKit

theorem flat_drop (l : List Nat) (k : Nat) : (l.flatMap u2).drop (2 * k) = (l.drop k).flatMap u2 := by
  induction k generalizing l with
  | zero => simp
  | succ k ih =>
    cases l with
    | nil => simp
    | cons x r =>
      rw [List.flatMap_cons, List.drop_succ_cons, ← ih r]
      show ((UInt8.ofNat (x / 256) :: UInt8.ofNat x :: r.flatMap u2)).drop (2 * k + 2) = _
      simp
theorem flat_take (l : List Nat) (k : Nat) : (l.flatMap u2).take (2 * k) = (l.take k).flatMap u2 := by
  induction k generalizing l with
  | zero => simp
  | succ k ih =>
    cases l with
    | nil => simp
    | cons x r =>
      rw [List.flatMap_cons, List.take_succ_cons, List.flatMap_cons, ← ih r]
      show ((UInt8.ofNat (x / 256) :: UInt8.ofNat x :: r.flatMap u2)).take (2 * k + 2) = _
      simp [u2]
/-- The string of units. -/
def strU (l : List Nat) : ByteArray := ⟨(l.flatMap u2).toArray⟩
theorem strU_size (l : List Nat) : (strU l).size = 2 * l.length := by
  show (l.flatMap u2).toArray.size = _
  simp only [List.size_toArray]; exact flat_length l
theorem strU_units (l : List Nat) (h : ∀ u ∈ l, u < 65536) : unitsS (strU l) = l := by
  show units (l.flatMap u2).toArray.toList = l
  simp only []; exact units_flat l h
theorem strU_sub (l : List Nat) (i j : Int) (f t : Nat) (ht : (t : Int) = min (max j 0) (l.length : Int)) (hf : (f : Int) = min (max i 0) (t : Int)) :
    subB (strU l) i j = strU ((l.drop f).take (t - f)) := by
  have hft : f ≤ t := by omega
  unfold subB
  have e1 : min (max j 0) (((strU l).size : Int) / 2) = (t : Int) := by rw [strU_size, ht]; congr 1; omega
  simp only [e1, ← hf, Int.toNat_natCast]
  apply ByteArray.ext
  apply Array.ext'
  rw [ByteArray.data_extract]
  simp only [strU, List.extract_toArray, List.extract_eq_take_drop] 
  rw [show 2 * t - 2 * f = 2 * (t - f) by omega, flat_drop, flat_take]
end Go.Proofs.Ytbkgophgclpijaa
