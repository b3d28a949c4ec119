/- ArenaCircles: the closure, the mathematics of the circle, what Collect does about it. -/
import Derived.Test.YtkkbfadfgdjkdaaAx
import Derived.BigRegion
namespace Go.Proofs.Ytkkbfadfgdjkdaa
open Go Go.RowKit

def atN (k : Int) (n : Nat) : Nat := (k % (n : Int)).toNat
theorem atN_lt (k : Int) {n : Nat} (h : 0 < n) : atN k n < n := by
  have h0 := Int.emod_nonneg k (by omega : (n : Int) ≠ 0)
  have h1 := Int.emod_lt_of_pos k (by omega : (0 : Int) < (n : Int))
  unfold atN
  omega
theorem at_val (k : Int) (n : Nat) (h0 : 0 < n) (h12 : n ≤ 12) : (wrap64 (k.tmod (n : Int) + (n : Int))).tmod (n : Int) = (atN k n : Int) := by
  have hb := tmod_bd k n (by omega)
  have e : wrap64 (k.tmod (n : Int) + (n : Int)) = k.tmod (n : Int) + (n : Int) := by unfold wrap64; omega
  have e2 : k.tmod (n : Int) % (n : Int) = k % (n : Int) := by
    have h3 := Int.mul_tdiv_add_tmod k (n : Int)
    have h4 := Int.add_mul_emod_self_left (k.tmod (n : Int)) (n : Int) (k.tdiv (n : Int))
    rw [← h4, show k.tmod (n : Int) + (n : Int) * k.tdiv (n : Int) = k by omega]
  rw [e, Int.tmod_eq_emod_of_nonneg (by omega), Int.add_emod_right, e2]
  have h0 := Int.emod_nonneg k (by omega : (n : Int) ≠ 0)
  unfold atN
  omega
set_option maxHeartbeats 1000000 in
set_option maxRecDepth 100000 in
theorem at_any (x n : Nat) (k : Int) (h0 : 0 < n) (h12 : n ≤ 12) (w : World) (h : w.cell? ⟨x, 0, none⟩ = some (.int .i64 (n : Int))) : Calls Try.prog 25 #[.int .i64 k, .pointer (some ⟨x, 0, none⟩)] w fun e w' => e = .returned (.int .i64 (atN k n : Int)) ∧ Below w.heap.size w w' := by
  have q0 : ¬ (n : Int) = 0 := by omega
  go_enter Try.func25, Try.ntmps25
  go_upto_region 1 with (fail)
  go_region
  rw [at_val k n h0 h12]
  go_wp2
  go_ret
  exact ⟨rfl, (Below.refl _ _).drew⟩
theorem dN_get {nbs : List Nat} {roots : List Int} {i : Nat} (h : i < nbs.length) : ((dN nbs roots).get ((i + 1 : Nat) : Int)).isSome = true := by
  unfold AD.get
  have hlen : (dN nbs roots).cells.length = nbs.length := by show (nbs.map some).length = _; rw [List.length_map]
  rw [if_pos ⟨by omega, by rw [hlen]; omega⟩]
  rw [show (((i + 1 : Nat) : Int) - 1).toNat = i by omega]
  show (((nbs.map some)[i]?).getD none).isSome = true
  rw [List.getElem?_map, List.getElem?_eq_getElem h]
  rfl
theorem circle_reach {nbs : List Nat} {n : Nat} (hn : nbs.length = n) {to_ : Nat → List Int} (hto : ∀ (k nb : Nat), nbs[k]? = some nb → (((k + 1) % n + 1 : Nat) : Int) ∈ to_ nb) {p : Nat} (hp : p < n) : ∀ k, k < n → Reach (dN nbs [((p + 1 : Nat) : Int)]) to_ [((p + 1 : Nat) : Int)] k := by
  have h : ∀ m, Reach (dN nbs [((p + 1 : Nat) : Int)]) to_ [((p + 1 : Nat) : Int)] ((p + m) % n) := by
    intro m
    induction m with
    | zero =>
      have h1 := Reach.root (d := dN nbs [((p + 1 : Nat) : Int)]) (to_ := to_) (roots := [((p + 1 : Nat) : Int)]) ((p + 1 : Nat) : Int) (by simp) (dN_get (by omega))
      rw [show (((p + 1 : Nat) : Int) - 1).toNat = p by omega] at h1
      have e : (p + 0) % n = p := Nat.mod_eq_of_lt hp
      rw [e]
      exact h1
    | succ m ih =>
      have hlt : (p + m) % n < n := Nat.mod_lt _ (by omega)
      have hlt2 : ((p + m) % n + 1) % n < n := Nat.mod_lt _ (by omega)
      have hk : nbs[(p + m) % n]? = some (nbs[(p + m) % n]'(by omega)) := List.getElem?_eq_getElem (by omega)
      have h1 := Reach.step (d := dN nbs [((p + 1 : Nat) : Int)]) (to_ := to_) (roots := [((p + 1 : Nat) : Int)]) ((p + m) % n) ((((p + m) % n + 1) % n + 1 : Nat) : Int) ih (by
        unfold toOf
        show _ ∈ (match (nbs.map some)[(p + m) % n]? with | some (some nb) => to_ nb | _ => [])
        rw [List.getElem?_map, hk]
        exact hto _ _ hk) (dN_get (by omega))
      rw [show (((((p + m) % n + 1) % n + 1 : Nat) : Int) - 1).toNat = ((p + m) % n + 1) % n by omega] at h1
      rw [← Nat.add_assoc]
      rwa [Nat.mod_add_mod] at h1
  intro k hk
  have h1 := h (k + n - p)
  rwa [show p + (k + n - p) = k + n by omega, Nat.add_mod_right, Nat.mod_eq_of_lt hk] at h1
theorem none_dead {d : AD} {M : List Bool} {n : Nat} (h : ∀ i, i < n → deadB d M ((i : Int) + 1) = false) : frL d M n = [] ∧ gnL d M n = [] := by
  induction n with
  | zero => exact ⟨rfl, rfl⟩
  | succ n ih =>
    obtain ⟨h1, h2⟩ := ih (fun i hi => h i (by omega))
    rw [frL_no (h n (by omega)), gnL_no (h n (by omega))]
    exact ⟨h1, h2⟩
theorem all_dead {d : AD} {M : List Bool} {n : Nat} (h : ∀ i, i < n → deadB d M ((i : Int) + 1) = true) : (frL d M n).length = n := by
  induction n with
  | zero => rfl
  | succ n ih =>
    rw [frL_yes (h n (by omega)), List.length_append, ih (fun i hi => h i (by omega))]
    rfl
theorem swept_nil (d : AD) : d.swept [] = d := by
  unfold AD.swept
  rw [show ([] : List Nat).reverse = [] from rfl, AD.freed_nil]
  rfl
/-- All are reached: nothing goes. -/
theorem circ_keep {A : Nat} {nbs : List Nat} {n p : Nat} (hn : nbs.length = n) (hn2 : n ≤ 12) (hp : p < n) {to_ : Nat → List Int} (hto : ∀ (k nb : Nat), nbs[k]? = some nb → (((k + 1) % n + 1 : Nat) : Int) ∈ to_ nb) {cv fv rv : Value} {w : World} (hs : Sys A A (dN nbs [((p + 1 : Nat) : Int)]) to_ noEn cv fv rv w) :
    Calls Try.prog 12 #[.pointer (some ⟨A, 0, none⟩), .nilFunc] w fun e w' => ∃ a c fv', e = .returned (.slice a 0 c) ∧ Below A w w' ∧ Sys A A (dN nbs [((p + 1 : Nat) : Int)]) to_ noEn cv fv' rv w' := by
  have hcl : (dN nbs [((p + 1 : Nat) : Int)]).cells.length = n := by show (nbs.map some).length = n; rw [List.length_map, hn]
  refine (sys_collect hs (by omega) (by show (0 : Nat) < 1000000; omega) (by show (1 : Nat) < 1000000; omega) (fun b => ⟨by show (0 : Int) ≤ 0; omega, by show (0 : Int) < 1000000; omega⟩) (by show nbs.length = someC (nbs.map some); rw [someC_map])).mono ?_
  rintro e w5 ⟨M, frv, fv5, rfl, hc⟩
  obtain ⟨h1, h2⟩ := none_dead (d := dN nbs [((p + 1 : Nat) : Int)]) (M := M) (n := n) (fun i hi => by
    cases h : deadB (dN nbs [((p + 1 : Nat) : Int)]) M ((i : Int) + 1) with
    | false => rfl
    | true => exact absurd (circle_reach hn hto hp i hi) ((deadB_iff hc.len hc.reach i).1 h).2)
  have hr := hc.row
  have hsy := hc.sys
  rw [hcl, h1] at hr hsy
  rw [h2, swept_nil, enK_nil] at hsy
  obtain ⟨a1, c1, rfl, -⟩ := slice_own hr
  exact ⟨a1, c1, fv5, rfl, hc.below, hsy⟩
/-- Nothing is a root: all go. -/
theorem circ_go {A : Nat} {nbs : List Nat} {n : Nat} (hn : nbs.length = n) (hn2 : n ≤ 12) {to_ : Nat → List Int} {cv fv rv : Value} {w : World} (hs : Sys A A (dN nbs []) to_ noEn cv fv rv w) :
    Calls Try.prog 12 #[.pointer (some ⟨A, 0, none⟩), .nilFunc] w fun e w' => ∃ a c, e = .returned (.slice a n c) ∧ Below A w w' ∧ ∃ d en fv', d.count = 0 ∧ Sys A A d to_ en cv fv' rv w' := by
  have hcl : (dN nbs []).cells.length = n := by show (nbs.map some).length = n; rw [List.length_map, hn]
  refine (sys_collect hs (by omega) (by show (0 : Nat) < 1000000; omega) (by show (0 : Nat) < 1000000; omega) (fun b => ⟨by show (0 : Int) ≤ 0; omega, by show (0 : Int) < 1000000; omega⟩) (by show nbs.length = someC (nbs.map some); rw [someC_map])).mono ?_
  rintro e w5 ⟨M, frv, fv5, rfl, hc⟩
  have h1 := all_dead (d := dN nbs []) (M := M) (n := n) (fun i hi => (deadB_iff hc.len hc.reach i).2 ⟨⟨nbs[i]'(by omega), by show (nbs.map some)[i]? = _; rw [List.getElem?_map, List.getElem?_eq_getElem (by omega)]; rfl⟩, no_reach i⟩)
  have hr := hc.row
  have hsy := hc.sys
  rw [hcl] at hr hsy
  rw [h1] at hr
  obtain ⟨a1, c1, rfl, -⟩ := slice_own hr
  refine ⟨a1, c1, rfl, hc.below, _, _, fv5, ?_, hsy⟩
  show nbs.length - (frL (dN nbs []) M n).length = 0
  omega
end Go.Proofs.Ytkkbfadfgdjkdaa
