/- TextSigns: the iterator over the characters. -/
import Derived.Test.YtbkgophgclpijaaSa
import Derived.RangeFuncNested
import Derived.RangeFuncBound
import Derived.RangeFuncCalls
import Derived.RangeFuncLeaves
import Derived.Shelf.Abstract
import Derived.Shelf.RegionOpen
import Derived.WalkKit
import Derived.OwnWalkIn
import Derived.TacticsInMore
import Derived.LoopNIn
import Derived.LoopIn
namespace Go.Proofs.Ytbkgophgclpijaa
open Go Go.RowKit

/-- The characters of units, each one as its units. -/
def signs : List Nat → List (List Nat)
  | [] => []
  | [u] => [[u]]
  | u :: v :: r => if isHi u && isLo v then [u, v] :: signs r else [u] :: signs (v :: r)
theorem isLo_zero : isLo 0 = false := rfl
theorem ptP_snd (u v : Nat) : (ptP u v).2 = 1 ∨ (ptP u v).2 = 2 := by
  unfold ptP
  split
  · exact .inr rfl
  · exact .inl rfl
theorem signs_step (l : List Nat) (i : Nat) (hi : i < l.length) :
    signs (l.drop i) = (l.drop i).take (ptP (l[i]?.getD 0) (l[i + 1]?.getD 0)).2 :: signs (l.drop (i + (ptP (l[i]?.getD 0) (l[i + 1]?.getD 0)).2)) ∧ i + (ptP (l[i]?.getD 0) (l[i + 1]?.getD 0)).2 ≤ l.length := by
  rw [List.getElem?_eq_getElem hi, Option.getD_some]
  by_cases h : i + 1 < l.length
  · rw [List.getElem?_eq_getElem h, Option.getD_some]
    have e1 : l.drop i = l[i] :: l[i + 1] :: l.drop (i + 2) := by rw [List.drop_eq_getElem_cons hi, List.drop_eq_getElem_cons h]
    rcases hc : (isHi l[i] && isLo l[i + 1]) with _ | _
    · have e2 : (ptP l[i] l[i + 1]).2 = 1 := by simp [ptP, hc]
      rw [e2]
      refine ⟨?_, by omega⟩
      conv => lhs; rw [e1]
      rw [signs, if_neg (by simp [hc]), List.drop_eq_getElem_cons h]
      rw [e1]; rfl
    · have e2 : (ptP l[i] l[i + 1]).2 = 2 := by simp [ptP, hc]
      rw [e2]
      refine ⟨?_, by omega⟩
      conv => lhs; rw [e1]
      rw [signs, if_pos (by simp [hc])]
      rw [e1]; rfl
  · have e0 : l[i + 1]?.getD 0 = 0 := by rw [List.getElem?_eq_none (by omega)]; rfl
    have e1 : l.drop i = [l[i]] := by rw [List.drop_eq_getElem_cons hi, List.drop_eq_nil_of_le (by omega)]
    have e2 : (ptP l[i] 0).2 = 1 := by simp [ptP, isLo_zero]
    rw [e0, e2]
    refine ⟨?_, by omega⟩
    rw [e1, List.drop_eq_nil_of_le (by omega)]
    rfl

/-- The box Bs holds what it held. -/
def KeepBox (Bs : Nat) (W W' : World) : Prop := W'.cell? ⟨Bs, 0, none⟩ = W.cell? ⟨Bs, 0, none⟩
theorem KeepBox.trans {Bs : Nat} {A B C : World} (h : KeepBox Bs A B) (k : KeepBox Bs B C) : KeepBox Bs A C := Eq.trans k h

attribute [local go_sem] Oper.semAt_some

set_option maxRecDepth 100000 in
set_option maxHeartbeats 2000000 in
/-- The iterator's function: for every body that keeps its box. -/
theorem points1_in (n : Nat) (hn : 1 ≤ n) (l Bs : Nat) (L : List Nat) (hL : L.length ≤ 1000000) (hU : ∀ u ∈ L, u < 65536) (J Jx : List (List Nat) → World → Prop)
    (hY : ∀ pre x W, J pre W → pre.length < (signs L).length → YieldAt Fence.wide (n - 1) Try.prog l #[.string (strU x)] W fun e W' =>
      (e = .returned (.bool true) ∧ J (pre ++ [x]) W' ∧ KeepBox Bs W W') ∨ (e = .returned (.bool false) ∧ Jx (pre ++ [x]) W'))
    (hJd : ∀ pre W m, J pre W → J pre (W.drewN m))
    (W : World) (hBs : W.cell? ⟨Bs, 0, none⟩ = some (.string (strU L))) (h0 : J [] W) :
    CallsIn Fence.wide n Try.prog 17 #[.func (.yield l) #[] #[], .pointer (some ⟨Bs, 0, none⟩)] W fun e W' => (∃ v, e = .returned v) ∧
      ((∃ ys, ys = signs L ∧ J ys W') ∨ (∃ pre, pre <+: signs L ∧ Jx pre W')) := by
  have hs : (strU L).size ≤ 16777216 := by rw [strU_size]; omega
  have hsz : ((strU L).size : Int) / 2 = (L.length : Int) := by rw [strU_size]; omega
  have HL := fun w => len_any (strU L) hs w
  rw [hsz] at HL
  refine callsIn_of_wp Try.func17 rfl trivial ?_ rfl
  simp only [Try.ntmps17, List.size_toArray, List.length_cons, List.length_nil, Nat.reduceAdd, Nat.reduceSub, Array.replicate_succ, Array.replicate_zero, List.push_toArray, List.append_toArray, List.nil_append, List.cons_append]
  gi_wp2
  gi_loopw [3] (fun i wr => ∃ (k : Nat) (pre : List (List Nat)), k ≤ L.length ∧ i = .int .i64 k ∧ signs L = pre ++ signs (L.drop k) ∧ J pre wr ∧ KeepBox Bs W wr)
    (fun i _ => L.length - (intOf i).toNat)
  case atStart => exact ⟨0, [], Nat.zero_le _, rfl, rfl, h0, rfl⟩
  case round =>
    obtain ⟨k, pre, hk, rfl, hpre, hJs, hnx⟩ := hrel
    have hcx : wr.cell? ⟨Bs, 0, none⟩ = some (.string (strU L)) := Eq.trans hnx hBs
    by_cases hlt : k < L.length
    · obtain ⟨hs1, hs2⟩ := signs_step L k hlt
      have HP := fun w => point_in (strU L) hs k (by rw [strU_size]; omega) w
      rw [strU_units L hU] at HP
      rcases hp : ptP (L[k]?.getD 0) (L[k + 1]?.getD 0) with ⟨pc, pn⟩
      rw [hp] at HP hs1 hs2
      dsimp only at HP hs1 hs2
      have HS : ∀ w, Calls Try.prog 18 #[.string (strU L), .int .i64 (k : Int), .int .i64 ((k : Int) + (pn : Int))] w fun e w' => e = .returned (.string (strU ((L.drop k).take pn))) ∧ w = w' := fun w => by
        have h := sub_any (strU L) hs (k : Int) ((k : Int) + (pn : Int)) w
        rwa [strU_sub L (k : Int) ((k : Int) + (pn : Int)) k (k + pn) (by omega) (by omega), show k + pn - k = pn by omega] at h
      have hlen : pre.length < (signs L).length := by rw [hpre, hs1]; simp
      gi_wp2_with (first | (refine ⟨trivial, ?_⟩; gi_at_call 16; refine (callsIn_wide.2 (HL _)).mono ?_; rintro e wq ⟨rfl, rfl⟩) | (refine ⟨trivial, ?_⟩; gi_at_call 11; refine (callsIn_wide.2 (HP _)).mono ?_; rintro e wq ⟨rfl, m, rfl⟩; obtain ⟨fn, tmps, assign, body, hy, hR⟩ := hY pre ((L.drop k).take pn) (wr.drewN m) (hJd _ _ _ hJs) hlen) | (refine ⟨trivial, ?_⟩; gi_at_call 18; refine (callsIn_wide.2 (HS _)).mono ?_; rintro e wq ⟨rfl, rfl⟩))
      have hpn : pn = 1 ∨ pn = 2 := by
        have := ptP_snd (L[k]?.getD 0) (L[k + 1]?.getD 0)
        rwa [hp] at this
      have e1 : IntKind.i64.wrap ((k : Int) + (pn : Int)) = ((k + pn : Nat) : Int) := by rw [IntWalk.i64_in _ (by omega)]; omega
      refine hR.mono ?_
      rintro e W3 (⟨rfl, hJ3, hk3⟩ | ⟨rfl, hJx3⟩)
      · gi_wp2
        go_roundw
        case rel => exact ⟨k + pn, _, hs2, by simp, by rw [hpre, hs1, List.append_assoc]; rfl, hJ3, hnx.trans hk3⟩
        case measure => simp [intOf]; omega
      · gi_wp2
        refine bodyPost_ret (results_none rfl _ _ _) rfl ?_
        exact ⟨⟨_, rfl⟩, .inr ⟨_, ⟨_, by rw [hpre, hs1, List.append_assoc]; rfl⟩, hJx3⟩⟩
    · obtain rfl : k = L.length := by omega
      have hlt' : ¬ (L.length : Int) < (L.length : Int) := by omega
      gi_wp2_with (first | (refine ⟨trivial, ?_⟩; gi_at_call 16; refine (callsIn_wide.2 (HL _)).mono ?_; rintro e wq ⟨rfl, rfl⟩) | (gi_at_call 16; refine (callsIn_wide.2 (HL _)).mono ?_; rintro e wq ⟨rfl, rfl⟩))
      go_end0
      exact ⟨⟨_, rfl⟩, .inl ⟨_, by rw [hpre]; simp [signs], hJs⟩⟩
end Go.Proofs.Ytbkgophgclpijaa
