/- Package arena: tell, bodies that are only followed. -/
import Derived.Test.YtbeapojjbgkalaaGreatDoorSe
namespace Go.Proofs.YtbeapojjbgkalaaGreatDoor
open Go Go.RowKit

/-- The function value of a marker's dead. -/
abbrev deadV (m : Nat) : Value := .func (.func 60) #[.pointer (some ⟨m, 0, none⟩)] #[]
set_option maxHeartbeats 4000000 in
set_option maxRecDepth 100000 in
theorem tell_plain (B A N m : Nat) (cv fv rv mv tv : Value) (d : AD) (M : List Bool) (todo : List Nat) (hML : M.length = d.cells.length) (hL : d.cells.length < 1000000) (w : World)
    (h : ArAt w B A cv fv rv d) (hn : ∀ (k : Nat) (b : Bd), d.cells[k]? = some (some b) → PlB b) (hm : MkAt w N A m mv tv M todo) :
    Calls Tryz.prog 59 #[.pointer (some ⟨A, 0, none⟩), deadV m] w fun e w' => e = .returned (.tuple #[]) ∧ w' = w := by
  obtain ⟨ao, cap, hcv, -, -, -⟩ := slice_own h.co
  have c0 : w.cell? ⟨A, 0, none⟩ = some (.slice ao d.cells.length cap) := by rw [h.box.at_ 0, hcv]; rfl
  have HD : Veil (∀ k : Int, Calls Tryz.prog 60 #[.pointer (some ⟨m, 0, none⟩), .int .i64 k] w fun e w' => e = .returned (.bool (deadB d M k)) ∧ w' = w) := ⟨fun k => dead_any B A N m cv fv rv mv tv d M todo hML k w h hm⟩
  have HPL := Veil.mk hn
  have HC : Veil (∀ i, i < d.cells.length → ∃ g, ao = some ⟨g, 0, none⟩ ∧ w.cell? ⟨g, i, none⟩ = some (bodyV (d.cells[i]?.getD none))) := ⟨fun i hi => by
    obtain ⟨g, cap', e, hc⟩ := cell_body h i hi
    rw [hcv] at e
    injection e with e1 e2 e3
    exact ⟨g, e1, hc⟩⟩
  clear h hn hm hML hcv
  go_enter Tryz.func59, Tryz.ntmps59
  go_wp2
  go_loopw [15] (fun i wr => ∃ k : Nat, k ≤ d.cells.length ∧ i = .int .i64 (k : Int) ∧ wr = w) (fun i _ => d.cells.length - (intOf i).toNat)
  case atStart => exact ⟨0, Nat.zero_le _, rfl, rfl⟩
  case round =>
    obtain ⟨k, hk, rfl, hw⟩ := hrel
    rw [hw]
    have hk0 : (0 : Int) ≤ (k : Int) := by omega
    by_cases hlt : k < d.cells.length
    · have hlt' : (k : Int) < (d.cells.length : Int) := by omega
      obtain ⟨g, rfl, hc⟩ := HC.out k hlt
      have hkb : (k : Int) < 1000000 := by omega
      obtain ⟨o, ho⟩ : ∃ o, d.cells[k]? = some o := ⟨_, List.getElem?_eq_getElem hlt⟩
      rw [ho] at hc
      cases o with
      | none =>
        replace hc : w.cell? ⟨g, k, none⟩ = some .nilIface := hc
        clear HC
        go_wp2
        go_round
        case rel => exact ⟨k + 1, by omega, by go_num, trivial⟩
        case measure => simp [intOf]; omega
      | some nb =>
        replace hc : w.cell? ⟨g, k, none⟩ = some (nodeV nb) := hc
        have HD1 := Veil.mk (HD.out ((k : Int) + 1))
        have hn1 : ∀ w : World, (binOp .eql 87 (nodeV nb) .nilIface).run Tryz.prog w = .ok (.bool false) w := fun _ => rfl
        have hp1 := (HPL.out k nb ho).noP
        have hp2 := (HPL.out k nb ho).noW
        clear HC ho
        cases hd : deadB d M ((k : Int) + 1) with
        | true =>
          rw [hd] at HD1
          clear hd
          go_wp2_with (first | (go_at_call 60; ((with_reducible refine HD1.out.mono ?_); rintro e9 w9 ⟨rfl, h9⟩; subst w9)))
          go_round
          case rel => exact ⟨k + 1, by omega, by go_num, trivial⟩
          case measure => simp [intOf]; omega
        | false =>
          rw [hd] at HD1
          clear hd
          go_wp2_with (first | (go_at_call 60; ((with_reducible refine HD1.out.mono ?_); rintro e9 w9 ⟨rfl, h9⟩; subst w9)))
          go_round
          case rel => exact ⟨k + 1, by omega, by go_num, trivial⟩
          case measure => simp [intOf]; omega
    · have hlt' : ¬ (k : Int) < (d.cells.length : Int) := by omega
      go_wp2
      exact bodyPost_end (results_none rfl _ _ _) rfl ⟨rfl, rfl⟩
end Go.Proofs.YtbeapojjbgkalaaGreatDoor
