/- Package arena: tell, where nodes have pairs and faint ones: the walk. -/
import Derived.Test.YtkkbfadfgdjkdaaDj
namespace Go.Proofs.Ytkkbfadfgdjkdaa
open Go Go.RowKit

set_option maxHeartbeats 4000000 in
set_option maxRecDepth 100000 in
theorem tell_w (B A N m : Nat) (cv fv rv mv tv pv : Value) (d : AD) (M : List Bool) (todo : List Nat) (D : DI) (c : Nat) (hML : M.length = d.cells.length) (hL : d.cells.length < 1000000) (to_ : Nat → List Int) (tab : Nat → List (Int × Int)) (en : Nat → Int) (w : World) (hNw : N ≤ w.heap.size)
    (h : ArAt w B A cv fv rv d) (hN : ∀ j, AFoot A cv fv rv j → j < N) (hn : NodesT w d to_ tab en N (AFoot A cv fv rv)) (hm : MkW w N A m mv tv pv M todo D c) :
    Calls Try.prog 28 #[.pointer (some ⟨A, 0, none⟩), deadV m] w fun e w' => e = .returned (.tuple #[]) ∧ Touch (NodeS d) w w' ∧ NodesT w' d to_ (tellT d M tab d.cells.length) en w'.heap.size (AFoot A cv fv rv) := by
  obtain ⟨ao, cap, hcv, -, -, -⟩ := slice_own h.co
  have c0 : w.cell? ⟨A, 0, none⟩ = some (.slice ao d.cells.length cap) := by rw [h.box.at_ 0, hcv]; rfl
  have nS : ∀ j, NodeS d j → j < N ∧ Lab w j 30 := fun j ⟨i, hi⟩ => by
    obtain ⟨a, na, ca, ta, nt, ct, fv, hx⟩ := hn i j hi
    exact ⟨hx.low, hx.box.lab⟩
  have hAr : ∀ wr, Touch (NodeS d) w wr → ArAt wr B A cv fv rv d := fun wr ht => h.touch ht (fun j hj hs => by
    have hl := (nS j hs).2
    exact AFoot.lab h hl (by decide) (by decide) (by decide) hj)
  have HD : Veil (∀ wr, Touch (NodeS d) w wr → ∀ k : Int, Calls Try.prog 29 #[.pointer (some ⟨m, 0, none⟩), .int .i64 k] wr fun e w' => e = .returned (.bool (deadB d M k)) ∧ w' = wr) := ⟨fun wr ht k => by
    have hw := hm.touch ht (fun j hj hs => by
      have := WFoot.ge hm hj
      have := (nS j hs).1
      omega)
    exact dead_any B A N m cv fv rv mv tv d M todo hML k wr (hAr wr ht) hw.mk_⟩
  have HX : Veil (∀ j, AFoot A cv fv rv j → j < w.heap.size) := ⟨fun j hj => by have := hN j hj; omega⟩
  have HC : Veil (∀ wr, Touch (NodeS d) w wr → ∀ i, i < d.cells.length → ∃ g, ao = some ⟨g, 0, none⟩ ∧ wr.cell? ⟨g, i, none⟩ = some (bodyV (d.cells[i]?.getD none)) ∧ wr.cell? ⟨A, 0, none⟩ = some (.slice ao d.cells.length cap)) := ⟨fun wr ht i hi => by
    obtain ⟨g, cap', e, hc⟩ := cell_body (hAr wr ht) i hi
    have h0 := (hAr wr ht).box.at_ 0
    rw [hcv] at e h0
    injection e with e1 e2 e3
    exact ⟨g, e1, hc, h0⟩⟩
  have HN0 := Veil.mk (show NodesT w d to_ tab en w.heap.size (AFoot A cv fv rv) from fun k nb hk => by
    obtain ⟨a, na, ca, ta, nt, ct, fv, hx⟩ := hn k nb hk
    exact ⟨a, na, ca, ta, nt, ct, fv, hx.bigger hNw⟩)
  have HNS := Veil.mk nS
  clear nS hAr hN hNw
  clear h hn hm hML hcv
  go_enter Try.func28, Try.ntmps28
  go_wp2
  clear c0
  go_loopw [15] (fun i wr => ∃ k : Nat, k ≤ d.cells.length ∧ i = .int .i64 (k : Int) ∧ Touch (NodeS d) w wr ∧ NodesT wr d to_ (tellT d M tab k) en wr.heap.size (AFoot A cv fv rv)) (fun i _ => d.cells.length - (intOf i).toNat)
  case atStart => exact ⟨0, Nat.zero_le _, rfl, Touch.refl _ _, by rw [tellT_zero]; exact HN0.out⟩
  case round =>
    obtain ⟨k, hk, rfl, ht, hn⟩ := hrel
    have hk0 : (0 : Int) ≤ (k : Int) := by omega
    by_cases hlt : k < d.cells.length
    · have hlt' : (k : Int) < (d.cells.length : Int) := by omega
      obtain ⟨g, rfl, hc, -⟩ := HC.out wr ht k hlt
      have hkb : (k : Int) < 1000000 := by omega
      obtain ⟨o, ho⟩ : ∃ o, d.cells[k]? = some o := ⟨_, List.getElem?_eq_getElem hlt⟩
      rw [ho] at hc
      cases o with
      | none =>
        replace hc : wr.cell? ⟨g, k, none⟩ = some .nilIface := hc
        have HF := Veil.mk (And.intro ht (show NodesT wr d to_ (tellT d M tab (k + 1)) en wr.heap.size (AFoot A cv fv rv) by rw [tellT_no (fun nb e => by rw [ho] at e; cases e)]; exact hn))
        clear HC HN0 ht hn
        go_wp2
        go_round
        case rel => exact ⟨k + 1, by omega, by go_num, HF.out⟩
        case measure => simp [intOf]; omega
      | some nb =>
        replace hc : wr.cell? ⟨g, k, none⟩ = some (nodeV2 nb) := hc
        have HD1 := Veil.mk (HD.out wr ht ((k : Int) + 1))
        have hn1 : ∀ w : World, (binOp .eql 51 (nodeV2 nb) .nilIface).run Try.prog w = .ok (.bool false) w := fun _ => rfl
        have hp1 := pairs_assert nb
        have hp2 := weak_assert nb
        have hi1 := drop_method nb
        have hi2 := clear_method nb
        cases hd : deadB d M ((k : Int) + 1) with
        | true =>
          rw [hd] at HD1
          have HF := Veil.mk (And.intro ht (show NodesT wr d to_ (tellT d M tab (k + 1)) en wr.heap.size (AFoot A cv fv rv) by rw [tellT_no (fun _ _ => hd)]; exact hn))
          clear hd HC HN0 ht hn ho
          go_wp2_with (first | (go_at_call 29; ((with_reducible refine HD1.out.mono ?_); rintro e9 w9 ⟨rfl, h9⟩; subst w9)))
          go_round
          case rel => exact ⟨k + 1, by omega, by go_num, HF.out⟩
          case measure => simp [intOf]; omega
        | false =>
          rw [hd] at HD1
          obtain ⟨a, na, ca, ta, nt, ct, fa, hx⟩ := hn k nb ho
          have hsz := ht.size
          have hXr : ∀ j, AFoot A cv fv rv j → j < wr.heap.size := fun j hj => by have := HX.out j hj; omega
          have tN : ∀ W W', Touch (NodeS d) w W → Touch (fun b => b = nb) W W' → Touch (NodeS d) w W' := fun W W' h1 h2 => h1.trans (h2.mono (fun j hj => by rw [hj]; exact ⟨k, ho⟩))
          have HDR1 := Veil.mk (drop_any nb m (deadB d M) ta nt ct _ hx.smallT _ _ _ wr hx.box hx.tab (fun z w' hb => HD.out w' (ht.trans (Touch.of_below hb)) z))
          have hll := hx.tab.1
          have hst := stay_all (deadB d M) _ nt hll
          rw [← tellT_same ho hd] at hst
          rw [hst] at HDR1
          have hTl : (tellT d M tab (k + 1) nb).length ≤ 1000000 := by
            rw [tellT_same ho hd]
            have h1 := List.length_filter_le (fun p : Int × Int => !deadB d M p.1) (tellT d M tab k nb)
            have := hx.smallT
            omega
          have hTs : ∀ p ∈ tellT d M tab (k + 1) nb, p ∈ tellT d M tab k nb := fun p hp => by
            rw [tellT_same ho hd] at hp
            exact (List.mem_filter.1 hp).1
          have HCL1 : Veil (∀ w7 (tv' : Value), Touch (fun b => b = nb) wr w7 → Box w7 nb 30 #[.slice a na ca, tv', fa, .int .i64 (en nb)] → w7.ownsRow wr.heap.size 32 2 tv' (tellT d M tab (k + 1) nb).length (flat2 (tellT d M tab (k + 1) nb)) → Calls Try.prog 22 #[.pointer (some ⟨nb, 0, none⟩), deadV m] w7 fun e w' => e = .returned (.tuple #[]) ∧ Touch (fun k => k = nb) wr w' ∧ ∃ a na ca ta nt ct fv', NodeT w' nb (to_ nb) (tellT d M tab (k + 1) nb) (en nb) w'.heap.size (AFoot A cv fv rv) a na ca ta nt ct fv') := ⟨fun w7 tv' t7 b7 r7 => by
            obtain ⟨ta', ct', -, h7⟩ := hx.dropped (Nat.le_refl _) hXr t7 b7 r7 hTl hTs
            refine (clear_w (m := m) (deadB d M) h7 (Nat.le_refl _) (fun j hj => by have := hXr j hj; have := t7.size; omega) (fun z w' t8 => HD.out w' (tN _ _ (tN _ _ ht t7) t8) z)).mono ?_
            rintro e w8 ⟨h1, t8, fv', h8⟩
            exact ⟨h1, t7.trans t8, _, _, _, _, _, _, _, h8⟩⟩
          have HE : Veil (∀ w8, Touch (fun b => b = nb) wr w8 → (∃ a na ca ta nt ct fv', NodeT w8 nb (to_ nb) (tellT d M tab (k + 1) nb) (en nb) w8.heap.size (AFoot A cv fv rv) a na ca ta nt ct fv') → Touch (NodeS d) w w8 ∧ NodesT w8 d to_ (tellT d M tab (k + 1)) en w8.heap.size (AFoot A cv fv rv)) := ⟨fun w8 t8 h8 => ⟨tN _ _ ht t8, fun j nb' hj => by
            by_cases e : nb' = nb
            · subst e; exact h8
            · obtain ⟨a2, na2, ca2, ta2, nt2, ct2, fa2, hx2⟩ := hn j nb' hj
              rw [tellT_other ho e]
              exact ⟨a2, na2, ca2, ta2, nt2, ct2, fa2, hx2.beside hx.box e t8⟩⟩⟩
          clear hd HC HN0 ht hn ho hx hll hst hTl hTs tN hXr hsz
          go_wp2_with (first | (go_at_call 29; ((with_reducible refine HD1.out.mono ?_); rintro e9 w9 ⟨rfl, h9⟩; subst w9)) | (go_at_call 20; ((with_reducible refine HDR1.out.mono ?_); rintro e7 w7 ⟨rfl, tv7, t7, b7, r7⟩)) | (go_at_call 22; ((with_reducible refine (HCL1.out _ _ t7 b7 r7).mono ?_); rintro e8 w8 ⟨rfl, t8, h8⟩)))
          go_round
          case rel => exact ⟨k + 1, by omega, by go_num, HE.out _ t8 h8⟩
          case measure => simp [intOf]; omega
    · obtain rfl : k = d.cells.length := by omega
      have hlt' : ¬ (d.cells.length : Int) < (d.cells.length : Int) := by omega
      have HF := Veil.mk (And.intro ht hn)
      clear ht hn HN0 HC
      go_wp2
      exact bodyPost_end (results_none rfl _ _ _) rfl ⟨rfl, HF.out⟩
end Go.Proofs.Ytkkbfadfgdjkdaa
