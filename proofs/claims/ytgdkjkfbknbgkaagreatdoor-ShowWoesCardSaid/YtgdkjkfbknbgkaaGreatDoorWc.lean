/- Len, At, Sub, Join, Index of package text. -/
import Derived.Test.YtgdkjkfbknbgkaaGreatDoorWb
namespace Go.Proofs.YtgdkjkfbknbgkaaGreatDoor.W
open Go.RowKit

theorem len_any (s : ByteArray) (hs : s.size ≤ 16777216) (w : World) :
    Calls Tryz.prog 77 #[.string s] w fun e w' => e = .returned (.int .i64 ((s.size : Int) / 2)) ∧ w = w' := by
  go_enter Tryz.func77, Tryz.ntmps77
  go_wp2
  go_ret
  exact ⟨rfl, rfl⟩

/-- The units of a list of bytes. -/
def units : List UInt8 → List Nat
  | a :: b :: r => (a.toNat * 256 + b.toNat) :: units r
  | _ => []
theorem units_length : ∀ l : List UInt8, (units l).length = l.length / 2
  | [] => by simp [units]
  | [_] => by simp [units]
  | _ :: _ :: r => by simp [units, units_length r]; omega
theorem units_at : ∀ (l : List UInt8) (i : Nat) (h : 2 * i + 1 < l.length), (units l)[i]? = some (l[2 * i].toNat * 256 + l[2 * i + 1].toNat)
  | [], i, h => absurd h (by simp)
  | [_], i, h => absurd h (by simp)
  | a :: b :: r, 0, h => by simp [units]
  | a :: b :: r, i + 1, h => by
    have := units_at r i (by simp at h; omega)
    simp only [units, List.getElem?_cons_succ, this]
    rfl
theorem units_lt : ∀ (l : List UInt8) (u : Nat), u ∈ units l → u < 65536
  | [], u, h => by simp [units] at h
  | [_], u, h => by simp [units] at h
  | a :: b :: r, u, h => by
    simp only [units, List.mem_cons] at h
    rcases h with rfl | h
    · have := a.toNat_lt; have := b.toNat_lt; omega
    · exact units_lt r u h
/-- The units of a string. -/
def unitsS (s : ByteArray) : List Nat := units s.data.toList
theorem unitsS_length (s : ByteArray) : (unitsS s).length = s.size / 2 := by unfold unitsS; rw [units_length]; rfl
theorem unitsS_at (s : ByteArray) (i : Nat) (h : 2 * i + 1 < s.size) : (unitsS s)[i]? = some (s[2 * i].toNat * 256 + s[2 * i + 1].toNat) := by
  unfold unitsS; rw [units_at _ _ (by simpa using h)]; rfl
theorem unit_join (x y : UInt8) : bits .or .u16 (IntKind.u16.wrap (IntKind.u16.wrap (x.toNat : Int) * 256)) (IntKind.u16.wrap (y.toNat : Int)) = ((x.toNat * 256 + y.toNat : Nat) : Int) := by
  have hx := x.toNat_lt
  have hy := y.toNat_lt
  simp only [IntKind.wrap_u16]
  rw [show ((x.toNat : Int) % 65536 * 256) % 65536 = (x.toNat : Int) * 256 by omega, show (y.toNat : Int) % 65536 = (y.toNat : Int) by omega]
  rw [bits_join .u16 16 (by decide) (fun n h0 h1 => by rw [IntKind.wrap_u16]; omega) 8 _ _ (by omega) (by omega) (by omega) (by omega) (by omega) (by omega)]
  omega
theorem at_in (s : ByteArray) (hs : s.size ≤ 16777216) (i : Nat) (hi : i < s.size / 2) (w : World) :
    Calls Tryz.prog 79 #[.string s, .int .i64 (i : Int)] w fun e w' => e = .returned (.int .u16 (((unitsS s)[i]?.getD 0 : Nat) : Int)) ∧ ∃ n, w' = w.drewN n := by
  have h1 : (i : Int) < (s.size : Int) / 2 := by omega
  have h2 : 2 * i < s.size := by omega
  have h3 : 2 * i + 1 < s.size := by omega
  have HU := Lib.hid (unitsS_at s i h3)
  have HJ := Lib.hid (unit_join s[2 * i] s[2 * i + 1])
  go_enter Tryz.func79, Tryz.ntmps79
  go_wp2_with (first | (go_at_call 77; ((with_reducible refine (len_any _ hs _).mono ?_); rintro e w' ⟨rfl, rfl⟩)))
  have e1 : IntKind.i64.wrap (2 * (i : Int)) = 2 * (i : Int) := IntWalk.i64_in _ (by omega)
  have e2 : IntKind.i64.wrap (2 * (i : Int) + 1) = 2 * (i : Int) + 1 := IntWalk.i64_in _ (by omega)
  have p1 : 0 ≤ 2 * (i : Int) := by omega
  have p2 : 0 ≤ 2 * (i : Int) + 1 := by omega
  have p3 : 2 * (i : Int) < s.size := by omega
  have p4 : 2 * (i : Int) + 1 < s.size := by omega
  have n1 : (2 * (i : Int)).toNat = 2 * i := by omega
  have n2 : (2 * (i : Int) + 1).toNat = 2 * i + 1 := by omega
  go_quiet (fail)
  go_wp2
  go_ret
  exact ⟨ret_int (by rw [HU.out]; exact HJ.out), _, rfl⟩
theorem at_out (s : ByteArray) (hs : s.size ≤ 16777216) (i : Int) (hi : i < 0 ∨ (s.size : Int) / 2 ≤ i) (w : World) :
    Calls Tryz.prog 79 #[.string s, .int .i64 i] w fun e w' => e = .returned (.int .u16 0) ∧ w = w' := by
  rcases hi with hi | hi
  · go_enter Tryz.func79, Tryz.ntmps79
    go_wp2_with (first | (go_at_call 77; ((with_reducible refine (len_any _ hs _).mono ?_); rintro e w' ⟨rfl, rfl⟩)))
    go_ret
    exact ⟨rfl, rfl⟩
  · have h0 : ¬ i < 0 := by omega
    go_enter Tryz.func79, Tryz.ntmps79
    go_wp2_with (first | (go_at_call 77; ((with_reducible refine (len_any _ hs _).mono ?_); rintro e w' ⟨rfl, rfl⟩)))
    go_ret
    exact ⟨rfl, rfl⟩

end Go.Proofs.YtgdkjkfbknbgkaaGreatDoor.W
