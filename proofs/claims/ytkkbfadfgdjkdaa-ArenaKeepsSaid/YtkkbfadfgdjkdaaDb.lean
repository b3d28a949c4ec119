/- Package arena: Node.Pairs at any table, as a function to be ranged over. -/
import Derived.Test.YtkkbfadfgdjkdaaDa
namespace Go.Proofs.Ytkkbfadfgdjkdaa
open Go Go.RowKit
attribute [local go_sem] Oper.semAt_some

theorem TabIs.touch {S : Nat → Prop} {w w1 : World} {a : Option Addr} {n : Nat} {l : List (Int × Int)} (h : TabIs w a n l) (ht : Touch S w w1) (hS : ∀ b, InRow a b → ¬ S b) : TabIs w1 a n l :=
  ⟨h.1, fun hn => by
    obtain ⟨b, o, e, hlt, hc⟩ := h.2 hn
    have hs := hS b ⟨o, e⟩
    exact ⟨b, o, e, by have := ht.size; omega, fun i x hi => by rw [cell_touch ht hlt hs, cell_touch ht hlt hs]; exact hc i x hi⟩⟩
set_option maxRecDepth 100000 in
set_option maxHeartbeats 4000000 in
theorem pairs_any (n : Nat) (hn : 1 ≤ n) (nb : Nat) (a : Option Addr) (nt ct : Nat) (L : List (Int × Int)) (v0 v2 v3 : Value) (W : World) (hbx : Box W nb 30 #[v0, .slice a nt ct, v2, v3]) (hT : TabIs W a nt L) (hnt : nt ≤ 1000000) :
    ReadStops n Try.prog 59 #[.pointer (some ⟨nb, 0, none⟩)] #[] (fun x : Int × Int => #[.int .i64 x.1, .int .i64 x.2]) (InRow a) (fun xs => xs = L) (fun pre => pre <+: L) W := by
  intro l J Jx hJb _ hY h0
  have c0 : W.cell? ⟨nb, 1, none⟩ = some (.slice a nt ct) := hbx.at_ 1
  have hll := hT.1
  clear hbx
  refine callsIn_of_wp Try.func59 rfl trivial ?_ rfl
  simp only [Try.ntmps59, List.size_toArray, List.length_cons, List.length_nil, Nat.reduceAdd, Nat.reduceSub, Array.replicate_succ, Array.replicate_zero, List.push_toArray, List.append_toArray, List.nil_append, List.cons_append, List.append_nil]
  gi_wp2
  gi_loopw [13] (fun i wr => ∃ k : Nat, k ≤ nt ∧ i = .int .i64 (k : Int) ∧ J (L.take k) wr ∧ Touch (fun k => ¬ InRow a k) W wr) (fun i _ => nt - (intOf i).toNat)
  case atStart => exact ⟨0, Nat.zero_le _, rfl, h0, Touch.refl _ _⟩
  case round =>
    obtain ⟨k, hk, rfl, hJk, ht⟩ := hrel
    have hk0 : (0 : Int) ≤ (k : Int) := by omega
    have hI2 : TabIs wr a nt L := hT.touch ht (fun b h h2 => h2 h)
    by_cases hlt : k < nt
    · have hlt' : (k : Int) < (nt : Int) := by omega
      obtain ⟨b, o, rfl, hbl, hc⟩ := hI2.2 (by omega)
      obtain ⟨⟨x0, x1⟩, hx⟩ : ∃ x, L[k]? = some x := ⟨_, List.getElem?_eq_getElem (by omega)⟩
      obtain ⟨d0, d1⟩ := hc k _ hx
      have hps := prefix_snoc L k (x0, x1) hx
      have hpre : L.take k ++ [(x0, x1)] <+: L := by rw [← hps]; exact List.take_prefix _ _
      have bb : Below wr.heap.size wr (wr.alloc (.cells #[.int .i64 x0, .int .i64 x1] 32)) := (Below.refl _ _).alloc (Nat.le_refl _) _
      have hJ1 := hJb _ _ _ hJk bb
      have ht1 : Touch (fun k => ¬ InRow (some ⟨b, o, none⟩) k) W (wr.alloc (.cells #[.int .i64 x0, .int .i64 x1] 32)) := ht.trans (Touch.of_below bb)
      obtain ⟨fn, tmps, assign, body, hy, hR⟩ := hY (L.take k) (x0, x1) _ hJ1 hpre
      have HB := Veil.mk ht1
      clear hc ht1 bb hI2 hT
      gi_wp2
      refine hR.mono ?_
      rintro e W3 (⟨rfl, hJ3, hk3⟩ | ⟨rfl, hJx3⟩)
      · gi_wp2
        go_roundw
        case rel => exact ⟨k + 1, by omega, by go_num, by rw [hps]; exact hJ3, HB.out.trans hk3⟩
        case measure => simp [intOf]; omega
      · gi_wp2
        refine bodyPost_ret (results_none rfl _ _ _) rfl ?_
        exact ⟨⟨_, rfl⟩, .inr ⟨_, hpre, hJx3⟩⟩
    · obtain rfl : k = nt := by omega
      have hlt' : ¬ (k : Int) < (k : Int) := by omega
      gi_wp2
      refine bodyPost_end (results_none rfl _ _ _) rfl ?_
      exact ⟨⟨_, rfl⟩, .inl (by rw [List.take_of_length_le (by omega)] at hJk; exact hJk)⟩
end Go.Proofs.Ytkkbfadfgdjkdaa
