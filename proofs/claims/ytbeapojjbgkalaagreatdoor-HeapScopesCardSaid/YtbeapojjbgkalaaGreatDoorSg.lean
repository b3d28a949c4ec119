/- slices.Backward over numbers, as a function to be ranged over. -/
import Derived.Test.YtbeapojjbgkalaaGreatDoorSf
namespace Go.Proofs.YtbeapojjbgkalaaGreatDoor
open Go Go.RowKit
attribute [local go_sem] Oper.semAt_some

/-- What lies below k, from the end. -/
def backK (l : List Nat) : Nat → List (Nat × Nat)
  | 0 => []
  | k + 1 => (k, l.getD k 0) :: backK l k
theorem back_vals : ∀ (l : List Nat), ((backK l l.length).map (·.2)) = l.reverse := by
  have key : ∀ (l : List Nat) (k : Nat), k ≤ l.length → ((backK l k).map (·.2)) = (l.take k).reverse := by
    intro l k
    induction k with
    | zero => intro _; simp [backK]
    | succ k ih =>
      intro hk
      have hkl : k < l.length := by omega
      rw [backK, List.map_cons, ih (by omega), prefix_snoc l k l[k] (List.getElem?_eq_getElem hkl), List.reverse_append]
      simp [List.getD, List.getElem?_eq_getElem hkl]
  intro l
  rw [key l l.length (Nat.le_refl _), List.take_length]
set_option maxRecDepth 100000 in
theorem back_any (a : Option Addr) (n c : Nat) (w : World) : Calls Tryz.prog 91 #[.slice a n c] w fun e w' => e = .returned (.func (.func 114) #[] #[.pointer (some ⟨w.heap.size, 0, none⟩)]) ∧ w' = w.alloc (.cells #[.slice a n c] 57) := by
  go_enter Tryz.func91, Tryz.ntmps91
  go_wp2
  go_ret
  exact ⟨rfl, rfl⟩
set_option maxRecDepth 100000 in
set_option maxHeartbeats 2000000 in
theorem back_stops (m : Nat) (hm : 1 ≤ m) (bx B : Nat) (sv : Value) (l : List Nat) (hl : l.length ≤ 1000000) (W : World) (hbx : Box W bx 57 #[sv]) (hr : W.ownsRow B 3 1 sv l.length (numsV l)) :
    ReadStops m Tryz.prog 114 #[] #[.pointer (some ⟨bx, 0, none⟩)] (fun x : Nat × Nat => #[.int .i64 (x.1 : Int), .int .i64 (x.2 : Int)]) (fun k => k = bx ∨ sv.ownBlock = some k) (fun xs => xs = backK l l.length) (fun pre => pre <+: backK l l.length) W := by
  intro y J Jx _ _ hY h0
  obtain ⟨ao, cap, rfl, hcap, hg, -⟩ := slice_own hr
  have c0 : W.cell? ⟨bx, 0, none⟩ = some (.slice ao l.length cap) := hbx.at_ 0
  refine callsIn_of_wp Tryz.func114 rfl trivial ?_ rfl
  simp only [Tryz.ntmps114, List.size_toArray, List.length_cons, List.length_nil, Nat.reduceAdd, Nat.reduceSub, Array.replicate_succ, Array.replicate_zero, List.push_toArray, List.append_toArray, List.nil_append, List.cons_append]
  gi_wp2
  gi_loopw [3] (fun i wr => ∃ (k : Nat) (pre : List (Nat × Nat)), k ≤ l.length ∧ i = .int .i64 ((k : Int) - 1) ∧ backK l l.length = pre ++ backK l k ∧ J pre wr ∧ Touch (fun j => ¬ (j = bx ∨ (Value.slice ao l.length cap).ownBlock = some j)) W wr) (fun i _ => (intOf i + 1).toNat)
  case atStart => exact ⟨l.length, [], Nat.le_refl _, by go_num, rfl, h0, Touch.refl _ _⟩
  case round =>
    obtain ⟨k, pre, hk, rfl, hsp, hJ, ht⟩ := hrel
    cases k with
    | zero =>
      gi_wp2
      refine bodyPost_end (results_none rfl _ _ _) rfl ?_
      have hpre : pre = backK l l.length := by rw [hsp]; simp [backK]
      exact ⟨⟨_, rfl⟩, .inl ⟨pre, hpre, hJ⟩⟩
    | succ k =>
      obtain ⟨g, rfl⟩ := hg (by omega)
      have hb2 := hbx.touch ht (fun h => h (.inl rfl))
      have hr2 := own_touch hr ht (fun j hj h => h (.inr hj))
      have d0 : wr.cell? ⟨bx, 0, none⟩ = some (.slice (some ⟨g, 0, none⟩) l.length cap) := hb2.at_ 0
      have d1 : wr.cell? ⟨g, k, none⟩ = some (.int .i64 ((l.getD k 0 : Nat) : Int)) := by
        rw [hr2.cellAt k (by omega)]
        simp [List.getD, List.getElem?_eq_getElem (show k < l.length by omega)]
      have hsp2 : backK l l.length = (pre ++ [(k, l.getD k 0)]) ++ backK l k := by rw [hsp, backK]; simp
      have hpre : pre ++ [(k, l.getD k 0)] <+: backK l l.length := ⟨_, hsp2.symm⟩
      obtain ⟨x, hx⟩ : ∃ x, l.getD k 0 = x := ⟨_, rfl⟩
      rw [hx] at d1 hsp2 hpre
      have q1 : ((k + 1 : Nat) : Int) - 1 = (k : Int) := by omega
      have q0 : (0 : Int) ≤ (k : Int) := by omega
      have q2 : (k : Int) < (l.length : Int) := by omega
      have q3 : (k : Int) < 1000000 := by omega
      obtain ⟨fn, tmps, assign, body, hy, hR⟩ := hY pre (k, x) wr hJ hpre
      have HSP := Veil.mk hsp2
      clear hx hsp hb2 hr2 hsp2
      rw [q1]
      gi_wp2
      refine hR.mono ?_
      rintro e W3 (⟨rfl, hJ3, hk3⟩ | ⟨rfl, hJx3⟩)
      · gi_wp2
        go_roundw
        case rel => exact ⟨k, _, by omega, rfl, HSP.out, hJ3, ht.trans hk3⟩
        case measure => simp [intOf]
      · gi_wp2
        refine bodyPost_ret (results_none rfl _ _ _) rfl ?_
        exact ⟨⟨_, rfl⟩, .inr ⟨_, hpre, hJx3⟩⟩
end Go.Proofs.YtbeapojjbgkalaaGreatDoor
