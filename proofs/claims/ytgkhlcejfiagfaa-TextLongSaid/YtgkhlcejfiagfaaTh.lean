/- TextLong: what is too long isn't joined. -/
import Derived.Test.YtgkhlcejfiagfaaTf
namespace Go.Proofs.Ytgkhlcejfiagfaa
open Go.RowKit

/-- A slice of zero bytes and the string of it. -/
theorem make_string (n : Nat) (hn : n ≤ 16777216) (w : World) : ∃ (w2 : World) (z : ByteArray), (Instr.makeSlice 46 (.int .i64 (n : Int)) (.int .i64 (n : Int))).run Try.prog w = .ok (.slice (some ⟨w.heap.size, 0, none⟩) n n) w2 ∧
    (convert 46 9 (.slice (some ⟨w.heap.size, 0, none⟩) n n)).run Try.prog w2 = .ok (.string z) w2 ∧ z.size = n ∧ Below w.heap.size w w2 := by
  obtain ⟨i0, hi, hz0, hz1, hz2⟩ := info_parts Try.info5
  obtain ⟨w2, hr, hown, hg⟩ := run_make_full (P := Try.prog) w w.heap.size 46 5 i0 (.int .u8 0) 1 Try.underlying46 hi hz0 hz1 .i64 .i64 n (by rw [hz2]; omega) (by unfold maxLen; omega) (Nat.le_refl _)
  have e : (madeCells (Value.int .u8 0).cells (n * 1)).toList = Lib.byteCells (List.replicate n 0) := by
    show (madeCells #[Value.int .u8 0] (n * 1)).toList = _
    rw [toList_madeCells_one, Nat.mul_one]
    simp [Lib.byteCells]
  rw [e] at hown
  have hl : (List.replicate n (0 : UInt8)).length = n := by simp
  have h2 := run_string_own (P := Try.prog) (w := w2) (src := 46) (dst := 9) (e := 5) (l := List.replicate n 0) Try.underlying46 Try.underlying5 Try.underlying9 (by rw [hl]; exact hown)
  exact ⟨w2, _, hr, h2, by show (List.replicate n (0 : UInt8)).toArray.size = n; simp, (Below.refl _ _).grown hg (Nat.le_refl _) (fun k h => by cases h)⟩

set_option maxRecDepth 1000000 in
set_option maxHeartbeats 2000000 in
theorem long_any (n : Int) (w : World) :
    Calls Try.prog 6 #[.int .i64 n] w fun e w' => e = .returned (.bool true) ∧ Below w.heap.size w w' := by
  have hb1 := tmod_bd n 5 (by omega)
  have hE : (n.tmod 5 + 5).tmod 5 = (n.tmod 5 + 5) % 5 := Int.tmod_eq_emod_of_nonneg (by omega)
  obtain ⟨r, hN2⟩ : ∃ r : Nat, (r : Int) = (n.tmod 5 + 5) % 5 := ⟨((n.tmod 5 + 5) % 5).toNat, by omega⟩
  have hr : r < 5 := by omega
  obtain ⟨g0, g1⟩ := hb1
  have hN3 := hE.trans hN2.symm
  have hN4 := hN2.symm
  clear hN2 hE
  go_enter Try.func6, Try.ntmps6
  go_wp2_with (first | (go_at_call 9; ((with_reducible refine (fit_any _).mono ?_); rintro e w1 ⟨rfl, hb1⟩; refine Hid.out ?_)))
  obtain ⟨w2, za, hm1, hc1, hz1, hb2⟩ := make_string (2 * (32766 + r)) (by omega) w1
  obtain ⟨w3, zb, hm2, hc2, hz2, hb3⟩ := make_string 65536 (by omega) w2
  rw [show ((2 * (32766 + r) : Nat) : Int) = 2 * (32768 + ((r : Int) - 2)) by omega] at hm1
  rw [show ((65536 : Nat) : Int) = 65536 from rfl] at hm2
  have hb := blw2 (blw2 hb1 hb2) hb3
  have hza : (za.size : Int) ≤ 70000 := by omega
  have hzb : (zb.size : Int) ≤ 70000 := by omega
  have ha : za.size ≤ 16777216 := by omega
  have hbb : zb.size ≤ 16777216 := by omega
  have hap : (za ++ zb).size = za.size + zb.size := by simp
  by_cases hr2 : r ≤ 2
  · have hj := join_in za zb ha hbb (by omega)
    have hd : decide ((r : Int) - 2 ≤ 0) = true := by simp; omega
    have he : ((za ++ zb).size == za.size + zb.size) = true := by simp
    have hei : (((za ++ zb).size : Int) == (za.size : Int) + (zb.size : Int)) = true := by simp
    clear hz1 hz2
    refine Lib.hid ?_
    go_wp2_with (first | (go_at_call 19; ((with_reducible refine (hj _).mono ?_); rintro e w' ⟨rfl, rfl⟩)))
    go_ret
    exact ⟨rfl, hb⟩
  · have hj := join_out za zb ha hbb (by omega)
    have hd : decide ((r : Int) - 2 ≤ 0) = false := by simp; omega
    clear hz1 hz2
    refine Lib.hid ?_
    go_wp2_with (first | (go_at_call 19; ((with_reducible refine (hj _).mono ?_); rintro e w' ⟨rfl, rfl⟩)))
    go_ret
    exact ⟨rfl, hb⟩
end Go.Proofs.Ytgkhlcejfiagfaa
