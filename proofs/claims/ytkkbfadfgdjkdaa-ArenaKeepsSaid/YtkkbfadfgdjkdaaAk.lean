/- Package arena: Drop, Clear, Gone on a node without pairs and faint ones; tell. -/
import Derived.Test.YtkkbfadfgdjkdaaAj
namespace Go.Proofs.Ytkkbfadfgdjkdaa
open Go Go.RowKit

theorem setCell_same {w : World} {g i : Nat} {t : TypeId} {cs : Array Value} {v : Value} (h : Box w g t cs) (hv : cs[i]? = some v) : w.setCell ⟨g, i, none⟩ v = w := by
  have h' : w.heap[g]? = some (.cells cs t (0, 0)) := h
  have hc : cs.setIfInBounds i v = cs := by
    apply Array.ext_getElem?
    intro j
    rw [Array.getElem?_setIfInBounds]
    split
    · rename_i e
      subst e
      obtain ⟨hl, he⟩ := Array.getElem?_eq_some_iff.1 hv
      rw [if_pos hl, hv]
    · rfl
  have hb : Box (w.setCell ⟨g, i, none⟩ v) g t cs := by
    have := h.put i v
    rwa [hc] at this
  have hh : (w.setCell ⟨g, i, none⟩ v).heap = w.heap := by
    apply Array.ext_getElem?
    intro k
    by_cases e : k = g
    · subst e
      exact hb.trans h'.symm
    · exact Below.heap_setCell w ⟨g, i, none⟩ v k e
  show { w with heap := (w.setCell ⟨g, i, none⟩ v).heap } = w
  rw [hh]
abbrev tFun : TypeId := 56
set_option maxHeartbeats 1000000 in
set_option maxRecDepth 100000 in
theorem drop_plain (nb : Nat) (fv v0 v2 v3 : Value) (w : World) (h : Box w nb 30 #[v0, .slice none 0 0, v2, v3]) : Calls Try.prog 20 #[.pointer (some ⟨nb, 0, none⟩), fv] w fun e w' => e = .returned (.tuple #[]) ∧ w' = w := by
  have c1 : w.cell? ⟨nb, 1, none⟩ = some (.slice none 0 0) := h.at_ 1
  have c1f := h.free 1
  have HS := Veil.mk (setCell_same h (i := 1) (v := .slice none 0 0) rfl)
  clear h
  go_enter Try.func20, Try.ntmps20
  go_wp2
  go_loopw [4, 14] (fun l i wr => l = .slice none 0 0 ∧ i = .int .i64 0 ∧ wr = w) (fun _ _ _ => 0)
  case atStart => exact ⟨rfl, rfl, rfl⟩
  case round =>
    obtain ⟨rfl, rfl, hw⟩ := hrel
    rw [hw]
    go_wp2
    rw [HS.out]
    exact bodyPost_end (results_none rfl _ _ _) rfl ⟨rfl, rfl⟩
set_option maxHeartbeats 1000000 in
set_option maxRecDepth 100000 in
theorem clone_nil (w : World) : Calls Try.prog 36 #[.slice none 0 0] w fun e w' => e = .returned (.slice none 0 0) ∧ w' = w := by
  have q : ∀ (w : World) (a : Option Addr) (n c n' c' : Nat), (binOp .eql 22 (.slice a n c) (.slice none n' c')).run Try.prog w = .ok (.bool a.isNone) w := fun w a n c n' c' => Lib.run_eql_slice_nil w _ _ a n c n' c' Try.underlying22
  go_enter Try.func36, Try.ntmps36
  go_wp2
  go_ret
  exact ⟨rfl, rfl⟩
set_option maxHeartbeats 1000000 in
set_option maxRecDepth 100000 in
theorem clear_plain (nb : Nat) (fv v0 v1 v3 : Value) (w : World) (h : Box w nb 30 #[v0, v1, .slice none 0 0, v3]) : Calls Try.prog 22 #[.pointer (some ⟨nb, 0, none⟩), fv] w fun e w' => e = .returned (.tuple #[]) ∧ w' = w := by
  have c1 : w.cell? ⟨nb, 2, none⟩ = some (.slice none 0 0) := h.at_ 2
  have c1f := h.free 2
  have HS := Veil.mk (setCell_same h (i := 2) (v := .slice none 0 0) rfl)
  have HC := Veil.mk (clone_nil w)
  clear h
  go_enter Try.func22, Try.ntmps22
  go_upto_region 2 with (first | (go_at_call 36; ((with_reducible refine HC.out.mono ?_); rintro e9 w9 ⟨rfl, h9⟩; subst w9)))
  rw [HS.out]
  go_wp2
  go_loopw [21] (fun i wr => i = .int .i64 0 ∧ wr = w) (fun _ _ => 0)
  case atStart => exact ⟨rfl, rfl⟩
  case round =>
    obtain ⟨rfl, hw⟩ := hrel
    rw [hw]
    go_wp2
    exact bodyPost_end (results_none rfl _ _ _) rfl ⟨rfl, rfl⟩
set_option maxRecDepth 100000 in
theorem gone_any (nb : Nat) (v0 v1 v2 : Value) (n : Int) (hn : -9223372036854775808 ≤ n ∧ n < 9223372036854775807) (w : World) (h : Box w nb 30 #[v0, v1, v2, .int .i64 n]) : Calls Try.prog 24 #[.pointer (some ⟨nb, 0, none⟩)] w fun e w' => e = .returned (.tuple #[]) ∧ w' = w.setCell ⟨nb, 3, none⟩ (.int .i64 (n + 1)) := by
  have c1 : w.cell? ⟨nb, 3, none⟩ = some (.int .i64 n) := h.at_ 3
  have c1f := h.free 3
  clear h
  obtain ⟨h1, h2⟩ := hn
  go_enter Try.func24, Try.ntmps24
  go_wp2
  exact bodyPost_end (results_none rfl _ _ _) rfl ⟨rfl, rfl⟩
theorem drop_method (nb : Nat) (w : World) : (method 208 27 (.pointer (some ⟨nb, 0, none⟩)) "Drop").run Try.prog w = .ok (20, .pointer (some ⟨nb, 0, none⟩)) w := by kernel_rfl
theorem clear_method (nb : Nat) (w : World) : (method 208 27 (.pointer (some ⟨nb, 0, none⟩)) "Clear").run Try.prog w = .ok (22, .pointer (some ⟨nb, 0, none⟩)) w := by kernel_rfl
theorem gone_method (nb : Nat) (w : World) : (method 208 27 (.pointer (some ⟨nb, 0, none⟩)) "Gone").run Try.prog w = .ok (24, .pointer (some ⟨nb, 0, none⟩)) w := by kernel_rfl
theorem weak_assert (nb : Nat) (W : World) : (Instr.typeAssert (nodeV2 nb) 51 81 true).run Try.prog W = .ok (.tuple #[nodeV2 nb, .bool true]) W := by kernel_rfl
theorem goner_assert (nb : Nat) (W : World) : (Instr.typeAssert (nodeV2 nb) 51 85 true).run Try.prog W = .ok (.tuple #[nodeV2 nb, .bool true]) W := by kernel_rfl
end Go.Proofs.Ytkkbfadfgdjkdaa
