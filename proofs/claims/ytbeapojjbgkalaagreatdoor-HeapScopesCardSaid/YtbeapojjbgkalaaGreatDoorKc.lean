/- fit: the keys of no table, as a function to be ranged over. -/
import Derived.Test.YtbeapojjbgkalaaGreatDoorKb
import Derived.Test.YtbeapojjbgkalaaGreatDoorGa
import Derived.Sort.LoopGhostIn
import Derived.Defers
import Derived.DefersIn
namespace Go.Proofs.YtbeapojjbgkalaaGreatDoor
open Go Go.RowKit

abbrev zeroV : Value := .agg #[.int .i64 0, .int .i64 0, .string ⟨#[]⟩]
set_option maxRecDepth 100000 in
theorem open_nil (w : World) : Calls Tryz.prog 98 #[.pointer none] w fun e w' => e = .returned (.bool false) ∧ w' = w := by
  go_enter Tryz.func98, Tryz.ntmps98
  go_wp2
  go_ret
  exact ⟨rfl, rfl⟩
set_option maxRecDepth 100000 in
theorem cursor_nil (w : World) : Calls Tryz.prog 73 #[.pointer none] w fun e w' => e = .returned (.pointer none) ∧ w' = w := by
  go_enter Tryz.func73, Tryz.ntmps73
  go_wp2
  go_ret
  exact ⟨rfl, rfl⟩
set_option maxRecDepth 100000 in
theorem next_nil (w : World) : Calls Tryz.prog 75 #[.pointer none] w fun e w' => e = .returned (.tuple #[zeroV, zeroV, .int .i64 0, .bool false]) ∧ Below w.heap.size w w' := by
  have HO := Veil.mk (fun w => open_nil w)
  go_enter Tryz.func75, Tryz.ntmps75
  go_wp2_with (first | (go_at_call 98; ((with_reducible refine (HO.out _).mono ?_); rintro e w1 ⟨rfl, rfl⟩)))
  exact bodyPost_ret (v := .tuple #[zeroV, zeroV, .int .i64 0, .bool false]) (by simp [results, Tryz.results75, go_sem]) rfl ⟨rfl, ((Below.refl _ _).alloc (Nat.le_refl _) _).alloc (by simp) _⟩
attribute [local go_sem] Oper.semAt_some

theorem closeD_nil (n : Nat) (m : FrameMode) (w : World) : CallsDIn Fence.wide n Tryz.prog 74 #[.pointer none] m w fun e u' w' => u' = m ∧ e = .returned (.tuple #[]) ∧ w' = w := by
  have HO := Veil.mk (open_nil w)
  refine callsDIn_of_wp Tryz.func74 rfl trivial (wpIn_wide.2 ?_) rfl
  simp only [Tryz.ntmps74, List.size_toArray, List.length_cons, List.length_nil, Nat.reduceAdd, Nat.reduceSub, Array.replicate_succ, Array.replicate_zero, List.push_toArray, List.append_toArray, List.nil_append, List.cons_append]
  go_wp2_with (first | (go_at_call 98; ((with_reducible refine HO.out.mono ?_); rintro e w1 ⟨rfl, rfl⟩)))
  exact bodyPost_ret (results_none rfl _ _ _) rfl ⟨rfl, rfl⟩
set_option maxRecDepth 100000 in
set_option maxHeartbeats 2000000 in
theorem allnil_stops (n : Nat) (hn : 2 ≤ n) (Bs : Nat) (W : World) (hbx : Box W Bs 62 #[.pointer none]) :
    TabStops n Tryz.prog 77 #[.pointer (some ⟨Bs, 0, none⟩)] (fun x : Vt × Vt => #[valV x.1, valV x.2]) (fun _ => False) (fun _ => False) (fun xs => xs = []) (fun _ => False) (fun _ => True) W := by
  intro l J Jx hJ hJx hY h0
  have hn1 : 1 ≤ n := by omega
  have hn2 : 1 ≤ n - 1 := by omega
  have c0 : W.cell? ⟨Bs, 0, none⟩ = some (.pointer none) := hbx.at_ 0
  have HJ := Veil.mk (And.intro hJ h0)
  clear hY hbx hJ hJx h0
  refine callsIn_of_wp_defers Tryz.func77 rfl trivial ?_ rfl
  simp only [Tryz.ntmps77, List.size_toArray, List.length_cons, List.length_nil, Nat.reduceAdd, Nat.reduceSub, Array.replicate_succ, Array.replicate_zero, List.push_toArray, List.append_toArray, List.nil_append, List.cons_append]
  gi_wp2_with (first | (refine ⟨trivial, ?_⟩; gi_at_call 73; refine (callsIn_wide.2 (cursor_nil _)).mono ?_; rintro e w1 ⟨rfl, h1⟩; subst w1))
  have hN := Veil.mk (next_nil W)
  gi_loopg [] 1 (fun k wr => k = 1 ∧ wr = W)
  case atStart => exact ⟨rfl, rfl⟩
  case round =>
    obtain ⟨-, rfl⟩ := hrel
    gi_wp2_with (first | (refine ⟨trivial, ?_⟩; gi_at_call 75; ((with_reducible refine (callsIn_wide.2 hN.out).mono ?_); rintro e w4 ⟨rfl, hb4⟩; have HB4 := Veil.mk hb4; clear hb4)))
    all_goals
      refine ⟨fun _ h => (by cases h), ?_⟩
      gi_wp2
      have hb2 : Below w4.heap.size w4 ((w4.alloc (.cells #[.int .i64 0, .int .i64 0, .string ⟨#[]⟩] 43)).alloc (.cells #[.int .i64 0, .int .i64 0, .string ⟨#[]⟩] 43)) := ((Below.refl _ _).alloc (Nat.le_refl _) _).alloc (by simp) _
      refine leavesIn_cons (f := 74) (args := #[.pointer none]) (by simp) (fun _ => hn1) (by simp [go_sem]) (fun _ _ => trivial) ?_
      refine (closeD_nil (n - 1) .returning _).mono ?_
      rintro e u' w'' ⟨rfl, rfl, rfl⟩
      refine ⟨_, results_none rfl _ _ _, ⟨_, rfl⟩, trivial, .inl ⟨[], rfl, ?_⟩⟩
      exact HJ.out.1 _ _ _ HJ.out.2 (Touch.of_below (HB4.out.trans (hb2.mono HB4.out.size)))
end Go.Proofs.YtbeapojjbgkalaaGreatDoor
