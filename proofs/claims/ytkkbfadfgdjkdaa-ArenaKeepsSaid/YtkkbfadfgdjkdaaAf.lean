/- Package arena: Node.Each, as a function to be ranged over. -/
import Derived.Test.YtkkbfadfgdjkdaaAe
namespace Go.Proofs.Ytkkbfadfgdjkdaa
open Go Go.RowKit
attribute [local go_sem] Oper.semAt_some

/-- The block that a slice lies in. -/
def InRow (a : Option Addr) (k : Nat) : Prop := ∃ o, a = some ⟨k, o, none⟩
theorem prefix_snoc {α : Type} (l : List α) (k : Nat) (x : α) (h : l[k]? = some x) : l.take (k + 1) = l.take k ++ [x] := by rw [List.take_add_one, h]; rfl
set_option maxRecDepth 100000 in
set_option maxHeartbeats 2000000 in
theorem each_stops (n : Nat) (hn : 1 ≤ n) (nb : Nat) (a : Option Addr) (na ca : Nat) (L : List Int) (v1 v2 v3 : Value) (W : World) (hbx : Box W nb 30 #[.slice a na ca, v1, v2, v3]) (hI : Ints W a na L) (hna : na ≤ 1000000) :
    ReadStops n Try.prog 58 #[.pointer (some ⟨nb, 0, none⟩)] #[] (fun x : Int => #[.int .i64 x]) (InRow a) (fun xs => xs = L) (fun pre => pre <+: L) W := by
  intro l J Jx _ _ hY h0
  have c0 : W.cell? ⟨nb, 0, none⟩ = some (.slice a na ca) := hbx.at_ 0
  have hll := hI.1
  clear hbx
  refine callsIn_of_wp Try.func58 rfl trivial ?_ rfl
  simp only [Try.ntmps58, List.size_toArray, List.length_cons, List.length_nil, Nat.reduceAdd, Nat.reduceSub, Array.replicate_succ, Array.replicate_zero, List.push_toArray, List.append_toArray, List.nil_append, List.cons_append, List.append_nil]
  gi_wp2
  gi_loopw [13] (fun i wr => ∃ k : Nat, k ≤ na ∧ i = .int .i64 (k : Int) ∧ J (L.take k) wr ∧ Touch (fun k => ¬ InRow a k) W wr) (fun i _ => na - (intOf i).toNat)
  case atStart => exact ⟨0, Nat.zero_le _, rfl, h0, Touch.refl _ _⟩
  case round =>
    obtain ⟨k, hk, rfl, hJk, ht⟩ := hrel
    have hk0 : (0 : Int) ≤ (k : Int) := by omega
    have hI2 : Ints wr a na L := hI.touch ht (fun b o e h => h ⟨o, e⟩)
    by_cases hlt : k < na
    · have hlt' : (k : Int) < (na : Int) := by omega
      obtain ⟨b, o, rfl, hbl, -, hc⟩ := hI2.2 (by omega)
      have hck := hc k hlt
      obtain ⟨x, hx⟩ : ∃ x, L[k]? = some x := ⟨_, List.getElem?_eq_getElem (by omega)⟩
      rw [hx] at hck
      have hps := prefix_snoc L k x hx
      have hpre : L.take k ++ [x] <+: L := by rw [← hps]; exact List.take_prefix _ _
      obtain ⟨fn, tmps, assign, body, hy, hR⟩ := hY (L.take k) x wr hJk hpre
      clear hc
      gi_wp2
      refine hR.mono ?_
      rintro e W3 (⟨rfl, hJ3, hk3⟩ | ⟨rfl, hJx3⟩)
      · gi_wp2
        go_roundw
        case rel => exact ⟨k + 1, by omega, by go_num, by rw [hps]; exact hJ3, ht.trans hk3⟩
        case measure => simp [intOf]; omega
      · gi_wp2
        refine bodyPost_ret (results_none rfl _ _ _) rfl ?_
        exact ⟨⟨_, rfl⟩, .inr ⟨_, hpre, hJx3⟩⟩
    · obtain rfl : k = na := by omega
      have hlt' : ¬ (k : Int) < (k : Int) := by omega
      gi_wp2
      refine bodyPost_end (results_none rfl _ _ _) rfl ?_
      exact ⟨⟨_, rfl⟩, .inl (by rw [List.take_of_length_le (by omega)] at hJk; exact hJk)⟩
set_option maxRecDepth 100000 in
set_option maxHeartbeats 2000000 in
theorem pairs_stops (n : Nat) (nb : Nat) (v0 v2 v3 : Value) (W : World) (hbx : Box W nb 30 #[v0, .slice none 0 0, v2, v3]) :
    ReadStops n Try.prog 59 #[.pointer (some ⟨nb, 0, none⟩)] #[] (fun x : Int × Int => #[.int .i64 x.1, .int .i64 x.2]) (fun _ => False) (fun xs => xs = []) (fun _ => False) W := by
  intro l J Jx _ _ hY h0
  have c0 : W.cell? ⟨nb, 1, none⟩ = some (.slice none 0 0) := hbx.at_ 1
  clear hbx hY
  refine callsIn_of_wp Try.func59 rfl trivial ?_ rfl
  simp only [Try.ntmps59, List.size_toArray, List.length_cons, List.length_nil, Nat.reduceAdd, Nat.reduceSub, Array.replicate_succ, Array.replicate_zero, List.push_toArray, List.append_toArray, List.nil_append, List.cons_append, List.append_nil]
  gi_wp2
  gi_loopw [13] (fun i wr => i = .int .i64 0 ∧ J [] wr) (fun _ _ => 0)
  case atStart => exact ⟨rfl, h0⟩
  case round =>
    obtain ⟨rfl, hJ⟩ := hrel
    gi_wp2
    refine bodyPost_end (results_none rfl _ _ _) rfl ?_
    exact ⟨⟨_, rfl⟩, .inl ⟨_, rfl, hJ⟩⟩
theorem each_ahead (nb : Nat) (w : World) : (nilAhead (Try.prog.types.size + Made.depth) 27 (.pointer (some ⟨nb, 0, none⟩)) "Each").run Try.prog w = .ok (some false) w := by kernel_rfl
theorem each_method (nb : Nat) (w : World) : (method (Try.prog.types.size + Made.depth) 27 (.pointer (some ⟨nb, 0, none⟩)) "Each").run Try.prog w = .ok (58, .pointer (some ⟨nb, 0, none⟩)) w := by kernel_rfl
theorem pairs_method (nb : Nat) (w : World) : (method (Try.prog.types.size + Made.depth) 27 (.pointer (some ⟨nb, 0, none⟩)) "Pairs").run Try.prog w = .ok (59, .pointer (some ⟨nb, 0, none⟩)) w := by kernel_rfl
end Go.Proofs.Ytkkbfadfgdjkdaa
