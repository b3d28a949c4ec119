/- Package arena: tell, where no node has pairs or faint ones. -/
import Derived.Test.YtkkbfadfgdjkdaaAk
namespace Go.Proofs.Ytkkbfadfgdjkdaa
open Go Go.RowKit

/-- The function value of a marker's dead. -/
abbrev deadV (m : Nat) : Value := .func (.func 29) #[.pointer (some ⟨m, 0, none⟩)] #[]
set_option maxHeartbeats 4000000 in
set_option maxRecDepth 100000 in
theorem tell_plain (B A N m : Nat) (cv fv rv mv tv : Value) (d : AD) (M : List Bool) (todo : List Nat) (hML : M.length = d.cells.length) (hL : d.cells.length < 1000000) (to_ : Nat → List Int) (en : Nat → Int) (X : Nat → Prop) (w : World)
    (h : ArAt w B A cv fv rv d) (hn : NodesAt w d to_ en N X) (hm : MkAt w N A m mv tv M todo) :
    Calls Try.prog 28 #[.pointer (some ⟨A, 0, none⟩), deadV m] w fun e w' => e = .returned (.tuple #[]) ∧ w' = w := by
  obtain ⟨ao, cap, hcv, -, -, -⟩ := slice_own h.co
  have c0 : w.cell? ⟨A, 0, none⟩ = some (.slice ao d.cells.length cap) := by rw [h.box.at_ 0, hcv]; rfl
  have HD : Veil (∀ k : Int, Calls Try.prog 29 #[.pointer (some ⟨m, 0, none⟩), .int .i64 k] w fun e w' => e = .returned (.bool (deadB d M k)) ∧ w' = w) := ⟨fun k => dead_any B A N m cv fv rv mv tv d M todo hML k w h hm⟩
  have HDR : Veil (∀ k nb, d.cells[k]? = some (some nb) → Calls Try.prog 20 #[.pointer (some ⟨nb, 0, none⟩), deadV m] w fun e w' => e = .returned (.tuple #[]) ∧ w' = w) := ⟨fun k nb hk => by
    obtain ⟨a, na, ca, hx⟩ := hn k nb hk
    exact drop_plain nb _ _ _ _ w hx.box⟩
  have HCL : Veil (∀ k nb, d.cells[k]? = some (some nb) → Calls Try.prog 22 #[.pointer (some ⟨nb, 0, none⟩), deadV m] w fun e w' => e = .returned (.tuple #[]) ∧ w' = w) := ⟨fun k nb hk => by
    obtain ⟨a, na, ca, hx⟩ := hn k nb hk
    exact clear_plain nb _ _ _ _ w hx.box⟩
  have HC : Veil (∀ i, i < d.cells.length → ∃ g, ao = some ⟨g, 0, none⟩ ∧ w.cell? ⟨g, i, none⟩ = some (bodyV (d.cells[i]?.getD none))) := ⟨fun i hi => by
    obtain ⟨g, cap', e, hc⟩ := cell_body h i hi
    rw [hcv] at e
    injection e with e1 e2 e3
    exact ⟨g, e1, hc⟩⟩
  clear h hn hm hML hcv
  go_enter Try.func28, Try.ntmps28
  go_wp2
  go_loopw [15] (fun i wr => ∃ k : Nat, k ≤ d.cells.length ∧ i = .int .i64 (k : Int) ∧ wr = w) (fun i _ => d.cells.length - (intOf i).toNat)
  case atStart => exact ⟨0, Nat.zero_le _, rfl, rfl⟩
  case round =>
    obtain ⟨k, hk, rfl, hw⟩ := hrel
    rw [hw]
    have hk0 : (0 : Int) ≤ (k : Int) := by omega
    by_cases hlt : k < d.cells.length
    · have hlt' : (k : Int) < (d.cells.length : Int) := by omega
      obtain ⟨g, rfl, hc⟩ := HC.out k hlt
      have hkb : (k : Int) < 1000000 := by omega
      obtain ⟨o, ho⟩ : ∃ o, d.cells[k]? = some o := ⟨_, List.getElem?_eq_getElem hlt⟩
      rw [ho] at hc
      cases o with
      | none =>
        replace hc : w.cell? ⟨g, k, none⟩ = some .nilIface := hc
        clear HC
        go_wp2
        go_round
        case rel => exact ⟨k + 1, by omega, by go_num, trivial⟩
        case measure => simp [intOf]; omega
      | some nb =>
        replace hc : w.cell? ⟨g, k, none⟩ = some (nodeV2 nb) := hc
        have HD1 := Veil.mk (HD.out ((k : Int) + 1))
        have HDR1 := Veil.mk (HDR.out k nb ho)
        have HCL1 := Veil.mk (HCL.out k nb ho)
        have hn1 : ∀ w : World, (binOp .eql 51 (nodeV2 nb) .nilIface).run Try.prog w = .ok (.bool false) w := fun _ => rfl
        have hp1 := pairs_assert nb
        have hp2 := weak_assert nb
        have hi1 := drop_method nb
        have hi2 := clear_method nb
        clear HC ho
        cases hd : deadB d M ((k : Int) + 1) with
        | true =>
          rw [hd] at HD1
          clear hd
          go_wp2_with (first | (go_at_call 29; ((with_reducible refine HD1.out.mono ?_); rintro e9 w9 ⟨rfl, h9⟩; subst w9)))
          go_round
          case rel => exact ⟨k + 1, by omega, by go_num, trivial⟩
          case measure => simp [intOf]; omega
        | false =>
          rw [hd] at HD1
          clear hd
          go_wp2_with (first | (go_at_call 29; ((with_reducible refine HD1.out.mono ?_); rintro e9 w9 ⟨rfl, h9⟩; subst w9)) | (go_at_call 20; ((with_reducible refine HDR1.out.mono ?_); rintro e9 w9 ⟨rfl, h9⟩; subst w9)) | (go_at_call 22; ((with_reducible refine HCL1.out.mono ?_); rintro e9 w9 ⟨rfl, h9⟩; subst w9)))
          go_round
          case rel => exact ⟨k + 1, by omega, by go_num, trivial⟩
          case measure => simp [intOf]; omega
    · have hlt' : ¬ (k : Int) < (d.cells.length : Int) := by omega
      go_wp2
      exact bodyPost_end (results_none rfl _ _ _) rfl ⟨rfl, rfl⟩
end Go.Proofs.Ytkkbfadfgdjkdaa
