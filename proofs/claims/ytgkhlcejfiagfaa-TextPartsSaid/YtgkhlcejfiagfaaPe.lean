/- TextParts: joining, comparing, parts and indices of sequences of units. -/
import Derived.Test.YtgkhlcejfiagfaaPd
namespace Go.Proofs.Ytgkhlcejfiagfaa
open Go.RowKit

theorem cmp_byte (x y : Nat) (hx : x < 65536) (hy : y < 65536) (r t : List UInt8) :
    Lib.compareBytes (u2 x ++ r) (u2 y ++ t) = if x < y then -1 else if y < x then 1 else Lib.compareBytes r t := by
  have hx1 : (UInt8.ofNat (x / 256)).toNat = x / 256 := by simp; omega
  have hy1 : (UInt8.ofNat (y / 256)).toNat = y / 256 := by simp; omega
  have hx2 : (UInt8.ofNat x).toNat = x % 256 := by simp
  have hy2 : (UInt8.ofNat y).toNat = y % 256 := by simp
  show Lib.compareBytes (UInt8.ofNat (x / 256) :: UInt8.ofNat x :: r) (UInt8.ofNat (y / 256) :: UInt8.ofNat y :: t) = _
  rw [Lib.compareBytes, Lib.compareBytes]
  simp only [UInt8.lt_iff_toNat_lt, hx1, hy1, hx2, hy2]
  by_cases h1 : x / 256 < y / 256
  · rw [if_pos h1, if_pos (by omega)]
  · rw [if_neg h1]
    by_cases h2 : y / 256 < x / 256
    · rw [if_pos h2, if_neg (by omega), if_pos (by omega)]
    · rw [if_neg h2]
      by_cases h3 : x % 256 < y % 256
      · rw [if_pos h3, if_pos (by omega)]
      · rw [if_neg h3]
        by_cases h4 : y % 256 < x % 256
        · rw [if_pos h4, if_neg (by omega), if_pos (by omega)]
        · rw [if_neg h4, if_neg (by omega), if_neg (by omega)]
theorem cmp_flat : ∀ (l r : List Nat), (∀ u ∈ l, u < 65536) → (∀ u ∈ r, u < 65536) → Lib.compareBytes (l.flatMap u2) (r.flatMap u2) = cmpU l r
  | [], [], _, _ => by simp [Lib.compareBytes, cmpU]
  | [], y :: t, _, _ => by simp [Lib.compareBytes, cmpU, u2]
  | x :: r, [], _, _ => by simp [Lib.compareBytes, cmpU, u2]
  | x :: r, y :: t, h1, h2 => by
    rw [List.flatMap_cons, List.flatMap_cons, cmp_byte x y (h1 x (List.mem_cons_self ..)) (h2 y (List.mem_cons_self ..)), cmp_flat r t (fun u hu => h1 u (List.mem_cons_of_mem _ hu)) (fun u hu => h2 u (List.mem_cons_of_mem _ hu))]
    rfl
theorem flat_drop (l : List Nat) (k : Nat) : (l.flatMap u2).drop (2 * k) = (l.drop k).flatMap u2 := by
  induction k generalizing l with
  | zero => simp
  | succ k ih =>
    cases l with
    | nil => simp
    | cons x r =>
      rw [List.flatMap_cons, List.drop_succ_cons, ← ih r]
      show ((UInt8.ofNat (x / 256) :: UInt8.ofNat x :: r.flatMap u2)).drop (2 * k + 2) = _
      simp
theorem flat_take (l : List Nat) (k : Nat) : (l.flatMap u2).take (2 * k) = (l.take k).flatMap u2 := by
  induction k generalizing l with
  | zero => simp
  | succ k ih =>
    cases l with
    | nil => simp
    | cons x r =>
      rw [List.flatMap_cons, List.take_succ_cons, List.flatMap_cons, ← ih r]
      show ((UInt8.ofNat (x / 256) :: UInt8.ofNat x :: r.flatMap u2)).take (2 * k + 2) = _
      simp [u2]
/-- The string of units. -/
def strU (l : List Nat) : ByteArray := ⟨(l.flatMap u2).toArray⟩
theorem strU_size (l : List Nat) : (strU l).size = 2 * l.length := by
  show (l.flatMap u2).toArray.size = _
  simp only [List.size_toArray]; exact flat_length l
theorem strU_units (l : List Nat) (h : ∀ u ∈ l, u < 65536) : unitsS (strU l) = l := by
  show units (l.flatMap u2).toArray.toList = l
  simp only []; exact units_flat l h
theorem strU_sub (l : List Nat) (i j : Int) (f t : Nat) (ht : (t : Int) = min (max j 0) (l.length : Int)) (hf : (f : Int) = min (max i 0) (t : Int)) :
    subB (strU l) i j = strU ((l.drop f).take (t - f)) := by
  have hft : f ≤ t := by omega
  unfold subB
  have e1 : min (max j 0) (((strU l).size : Int) / 2) = (t : Int) := by rw [strU_size, ht]; congr 1; omega
  simp only [e1, ← hf, Int.toNat_natCast]
  apply ByteArray.ext
  apply Array.ext'
  rw [ByteArray.data_extract]
  simp only [strU, List.extract_toArray, List.extract_eq_take_drop] 
  rw [show 2 * t - 2 * f = 2 * (t - f) by omega, flat_drop, flat_take]
end Go.Proofs.Ytgkhlcejfiagfaa
