/- The reference's List: the units of a string. -/
import Derived.Test.YtbkgophgclpijaaPa
namespace Go.Proofs.Ytbkgophgclpijaa
open Go.RowKit

theorem wrap_unit (x y : Nat) (hx : x < 256) (hy : y < 256) : IntKind.i64.wrap (IntKind.i64.wrap (IntKind.i64.wrap (x : Int) * 256) + IntKind.i64.wrap (y : Int)) = ((x * 256 + y : Nat) : Int) := by
  have e1 : IntKind.i64.wrap (x : Int) = x := by rw [IntKind.wrap_i64]; omega
  have e2 : IntKind.i64.wrap (y : Int) = y := by rw [IntKind.wrap_i64]; omega
  have e3 : IntKind.i64.wrap ((x : Int) * 256) = (x : Int) * 256 := by rw [IntKind.wrap_i64]; omega
  rw [e1, e2, e3, IntKind.wrap_i64]; omega

set_option maxRecDepth 1000000 in
set_option maxHeartbeats 2000000 in
theorem list_any (s : ByteArray) (hs : s.size ≤ 1000000) (w : World) :
    Calls Try.prog 8 #[.string s] w fun e w' => ∃ v, e = .returned v ∧ w'.ownsRow w.heap.size 3 1 v (unitsS s).length (numC (unitsS s)) ∧ Below w.heap.size w w' := by
  obtain ⟨i0, hi, hz0, hz1, hz2⟩ := info_parts Try.info3
  have HL := Veil.mk (unitsS_length s)
  go_enter Try.func8, Try.ntmps8
  go_wp2
  go_loopw [3, 4] (fun v i wr => ∃ k j : Nat, k ≤ s.size / 2 ∧ j = 2 * k ∧ i = .int .i64 (j : Int) ∧ wr.ownsRow w.heap.size 3 1 v k (numC ((unitsS s).take k)) ∧ Below w.heap.size w wr) (fun _ i _ => s.size + 2 - (intOf i).toNat)
  case atStart => exact ⟨0, 0, by omega, rfl, rfl, World.ownsRow_nil _ _ _ _, Below.refl _ _⟩
  case round =>
    obtain ⟨k, j, hk, hjk, rfl, hown, hbw⟩ := hrel
    by_cases hp : k < s.size / 2
    · have hj1 : j + 1 < s.size := by omega
      have hj0 : j < s.size := by omega
      have hU := unitsS_at s k (by omega)
      have htk : (unitsS s).take (k + 1) = (unitsS s).take k ++ [s[j].toNat * 256 + s[j + 1].toNat] := by
        rw [List.take_add_one, hU]; simp only [hjk]; rfl
      have hx : s[j].toNat < 256 := s[j].toNat_lt
      have hy : s[j + 1].toNat < 256 := s[j + 1].toNat_lt
      have HTK := Veil.mk htk
      have HJK := Veil.mk hjk
      have q1 : (0 : Int) ≤ (j : Int) := by omega
      have q2 : (j : Int) < (s.size : Int) := by omega
      have q3 : (0 : Int) ≤ (j : Int) + 1 := by omega
      have q4 : (j : Int) + 1 < (s.size : Int) := by omega
      have q5 : IntKind.i64.wrap ((j : Int) + 1) = (j : Int) + 1 := by rw [IntKind.wrap_i64]; omega
      have q6 : ((j : Int) + 1).toNat = j + 1 := by omega
      have hw := hbw.size
      clear htk hU hjk
      go_wp2
      go_region_law (refine step_append_lies _ rfl (.tmp 12) (.tmp 24) 27 rfl w.heap.size 3 i0 (.int .i64 0) 1 8 Try.underlying27 hi hz0 hz1 hz2 rfl (by decide) u3 k (numC ((unitsS s).take k)) (by simp [Act.eval]) (by first | exact (own_drew hown).alloc _ | exact own_drew (hown.alloc _)) ⟨wr.heap.size, 0, none⟩ 1 1 [_] (by simp [Act.eval]) rfl (by first | exact cells_new _ _ _ | exact cells_drew (cells_new _ _ _)) (fun x hx => by simp at hx; rcases hx with rfl; rfl) (by decide) (by unfold maxLen; omega) (by omega) (by simp; omega) _ rfl ?_; intro g cap' w3 hown' hgrow3 hblk hg3)
      all_goals
        have hown3 := hown'
        rw [wrap_unit _ _ hx hy] at hown3
        have hown4 : w3.ownsRow w.heap.size 3 1 (Value.slice (some { block := g, off := 0 }) (k + 1) cap') (k + 1) (numC ((unitsS s).take (k + 1))) := by rw [HTK.out, numC_append]; exact hown3
        have hbw3 : Below w.heap.size w w3 := Below.grown (by first | exact hbw.alloc hw _ | exact Below.drew (hbw.alloc hw _)) hgrow3 (by simp; omega) (fun j hj => (hown.lt _ hj).1)
        have q7 : IntKind.i64.wrap ((j : Int) + 2) = (j : Int) + 2 := by rw [IntKind.wrap_i64]; omega
        clear hown' hown3 hgrow3 hblk
        go_wp2
        go_roundw
        case rel => exact ⟨k + 1, j + 2, by omega, by have := HJK.out; omega, by go_num, hown4, hbw3⟩
        case measure => simp [intOf]; omega
    · have hkl : k = (unitsS s).length := by have := HL.out; omega
      have htk : (unitsS s).take k = unitsS s := List.take_of_length_le (by omega)
      have q1 : (0 : Int) ≤ (j : Int) := by omega
      have q5 : IntKind.i64.wrap ((j : Int) + 1) = (j : Int) + 1 := by rw [IntKind.wrap_i64]; omega
      have q4 : ¬ ((j : Int) + 1 < (s.size : Int)) := by omega
      rw [htk, hkl] at hown
      clear hkl htk hjk
      go_wp2
      go_ret
      exact ⟨_, rfl, hown, hbw⟩
end Go.Proofs.Ytbkgophgclpijaa
