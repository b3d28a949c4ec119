/- fit: the keys of no table, as a function to be ranged over. -/
import Derived.Test.YtbeapojjbgkalaaDoorKb
import Derived.Test.YtbeapojjbgkalaaDoorGa
import Derived.Sort.LoopGhostIn
import Derived.Defers
import Derived.DefersIn
namespace Go.Proofs.YtbeapojjbgkalaaDoor
open Go Go.RowKit
attribute [local go_sem] Oper.semAt_some

theorem closeD_nil (n : Nat) (m : FrameMode) (w : World) : CallsDIn Fence.wide n Tryd.prog 65 #[.pointer none] m w fun e u' w' => u' = m ∧ e = .returned (.tuple #[]) ∧ w' = w := by
  have HO := Veil.mk (open_nil w)
  refine callsDIn_of_wp Tryd.func65 rfl trivial (wpIn_wide.2 ?_) rfl
  simp only [Tryd.ntmps65, List.size_toArray, List.length_cons, List.length_nil, Nat.reduceAdd, Nat.reduceSub, Array.replicate_succ, Array.replicate_zero, List.push_toArray, List.append_toArray, List.nil_append, List.cons_append]
  go_wp2_with (first | (go_at_call 79; ((with_reducible refine HO.out.mono ?_); rintro e w1 ⟨rfl, rfl⟩)))
  exact bodyPost_ret (results_none rfl _ _ _) rfl ⟨rfl, rfl⟩
set_option maxRecDepth 100000 in
set_option maxHeartbeats 2000000 in
theorem allnil_stops (n : Nat) (hn : 2 ≤ n) (Bs : Nat) (W : World) (hbx : Box W Bs 29 #[.pointer none]) :
    TabStops n Tryd.prog 63 #[.pointer (some ⟨Bs, 0, none⟩)] (fun x : Vt × Vt => #[valV x.1, valV x.2]) (fun _ => False) (fun _ => False) (fun xs => xs = []) (fun _ => False) (fun _ => True) W := by
  intro l J Jx hJ hJx hY h0
  have hn1 : 1 ≤ n := by omega
  have hn2 : 1 ≤ n - 1 := by omega
  have c0 : W.cell? ⟨Bs, 0, none⟩ = some (.pointer none) := hbx.at_ 0
  have HJ := Veil.mk (And.intro hJ h0)
  clear hY hbx hJ hJx h0
  refine callsIn_of_wp_defers Tryd.func63 rfl trivial ?_ rfl
  simp only [Tryd.ntmps63, List.size_toArray, List.length_cons, List.length_nil, Nat.reduceAdd, Nat.reduceSub, Array.replicate_succ, Array.replicate_zero, List.push_toArray, List.append_toArray, List.nil_append, List.cons_append]
  gi_wp2_with (first | (refine ⟨trivial, ?_⟩; gi_at_call 64; refine (callsIn_wide.2 (cursor_nil _)).mono ?_; rintro e w1 ⟨rfl, h1⟩; subst w1))
  have hN := Veil.mk (next_nil W)
  gi_loopg [] 1 (fun k wr => k = 1 ∧ wr = W)
  case atStart => exact ⟨rfl, rfl⟩
  case round =>
    obtain ⟨-, rfl⟩ := hrel
    gi_wp2_with (first | (refine ⟨trivial, ?_⟩; gi_at_call 66; ((with_reducible refine (callsIn_wide.2 hN.out).mono ?_); rintro e w4 ⟨rfl, hb4⟩; have HB4 := Veil.mk hb4; clear hb4)))
    all_goals
      refine ⟨fun _ h => (by cases h), ?_⟩
      gi_wp2
      have hb2 : Below w4.heap.size w4 ((w4.alloc (.cells #[.int .i64 0, .int .i64 0, .string ⟨#[]⟩] 45)).alloc (.cells #[.int .i64 0, .int .i64 0, .string ⟨#[]⟩] 45)) := ((Below.refl _ _).alloc (Nat.le_refl _) _).alloc (by simp) _
      refine leavesIn_cons (f := 65) (args := #[.pointer none]) (by simp) (fun _ => hn1) (by simp [go_sem]) (fun _ _ => trivial) ?_
      refine (closeD_nil (n - 1) .returning _).mono ?_
      rintro e u' w'' ⟨rfl, rfl, rfl⟩
      refine ⟨_, results_none rfl _ _ _, ⟨_, rfl⟩, trivial, .inl ⟨[], rfl, ?_⟩⟩
      exact HJ.out.1 _ _ _ HJ.out.2 (Touch.of_below (HB4.out.trans (hb2.mono HB4.out.size)))
end Go.Proofs.YtbeapojjbgkalaaDoor
