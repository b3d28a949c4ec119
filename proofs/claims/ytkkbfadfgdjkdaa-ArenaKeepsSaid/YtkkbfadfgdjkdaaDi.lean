/- Package arena: trace, where nodes have pairs. -/
import Derived.Test.YtkkbfadfgdjkdaaDh
namespace Go.Proofs.Ytkkbfadfgdjkdaa
open Go Go.RowKit

/-- How trace ends: all that is reachable is marked, and no more. -/
def TrPostW (N A m : Nat) (mv : Value) (d : AD) (to_ : Nat → List Int) (tab : Nat → List (Int × Int)) (roots : List Int) (w : World) (e : Ending) (w' : World) : Prop :=
  e = .returned (.tuple #[]) ∧ TM N w w' ∧ ∃ tv' pv' D' c' M, MkW w' N A m mv tv' pv' M [] D' c' ∧ MGood d (M, []) ∧ PInv d to_ tab roots M [] (wtOf D')
set_option maxHeartbeats 4000000 in
set_option maxRecDepth 100000 in
theorem trace_w (B A N m : Nat) (cv fv rv mv tv pv : Value) (d : AD) (st : List Bool × List Nat) (hg : MGood d st) (hL : d.cells.length < 1000000) (to_ : Nat → List Int) (tab : Nat → List (Int × Int)) (en : Nat → Int) (X : Nat → Prop) (roots : List Int) (D0 : DI) (hT : PInv d to_ tab roots st.1 st.2 (wtOf D0)) (hmu0 : mu st ≤ 4000000) (w : World) (hNw : N ≤ w.heap.size)
    (hC : ∀ k, ReachP d to_ tab roots k → ∃ nb, d.cells[k]? = some (some nb))
    (h : ArAt w B A cv fv rv d) (hN : ∀ j, AFoot A cv fv rv j → j < N) (hn : NodesT w d to_ tab en N X) (hm : MkW w N A m mv tv pv st.1 st.2 D0 0) :
    Calls Try.prog 27 #[.pointer (some ⟨m, 0, none⟩)] w (TrPostW N A m mv d to_ tab roots w) := by
  have HA := Veil.mk (And.intro h (And.intro hN hn))
  have HC := Veil.mk hC
  have HS : Veil (∃ st' tv' pv' D' c, MGood d st' ∧ PInv d to_ tab roots st'.1 st'.2 (wtOf D') ∧ MkW w N A m mv tv' pv' st'.1 st'.2 D' c ∧ mu st' = mu st ∧ c + mu st' * 1000000 ≤ 4000000000000) := ⟨st, tv, pv, D0, 0, hg, hT, hm, rfl, by omega⟩
  have HF : Veil (∀ (st : List Bool × List Nat) (tv pv : Value) (D : DI) (c k nb : Nat) (w' : World), MGood d st → d.cells[k]? = some (some nb) → c < 5000000000000 → Below N w w' → MkW w' N A m mv tv pv st.1 st.2 D c → (tab nb).length ≤ 1000000 ∧ Calls Try.prog 37 #[.pointer (some ⟨m, 0, none⟩), .int .i64 ((k : Int) + 1)] w' (fun e w'' => e = .returned (.tuple #[]) ∧ TM N w' w'' ∧ ∃ tv' pv' D', MkW w'' N A m mv tv' pv' ((tab nb).foldl (pairP d) ((to_ nb ++ wtOf D ((k : Int) + 1)).foldl (markP d) st, wtOf D)).1.1 ((tab nb).foldl (pairP d) ((to_ nb ++ wtOf D ((k : Int) + 1)).foldl (markP d) st, wtOf D)).1.2 D' (c + (tab nb).length) ∧ wtOf D' = ((tab nb).foldl (pairP d) ((to_ nb ++ wtOf D ((k : Int) + 1)).foldl (markP d) st, wtOf D)).2)) := ⟨fun st tv pv D c k nb w' hg hk hc hb hm =>
    ⟨by
      obtain ⟨a, na, ca, ta, nt, ct, fv, hx⟩ := hn k nb hk
      rw [hx.tab.1]
      exact hx.smallT, follow_w B A N m cv fv rv mv tv pv d st D c hg hL hc to_ tab en X k nb hk w' (by have := hb.size; omega) (h.onN hN hb) hN (hn.onN hb) hm⟩⟩
  clear hC h hN hn hm hT hg
  obtain ⟨K, hK⟩ : ∃ K, mu st = K := ⟨_, rfl⟩
  rw [hK] at HS
  clear hK hmu0
  go_enter Try.func27, Try.ntmps27
  go_wp2
  go_loopg [] K (fun n wr => ∃ st tv' pv' D' c, MGood d st ∧ PInv d to_ tab roots st.1 st.2 (wtOf D') ∧ MkW wr N A m mv tv' pv' st.1 st.2 D' c ∧ mu st = n ∧ TM N w wr ∧ c + mu st * 1000000 ≤ 4000000000000)
  case atStart =>
    obtain ⟨st', tv', pv', D', c, h1, h2, h3, h4, h5⟩ := HS.out
    exact ⟨st', tv', pv', D', c, h1, h2, h3, h4, TM.refl _ _, h5⟩
  case round =>
    obtain ⟨⟨M, T⟩, tv', pv', D', c, hg, hT, hw, hmu, hb, hcb⟩ := hrel
    have hm := hw.mk_
    obtain ⟨ao, cap, rfl, hcap, hgg, hmx⟩ := slice_own hm.tq
    rcases List.eq_nil_or_concat T with rfl | ⟨t, k, hTk⟩
    · have x2 : wr.cell? ⟨m, 2, none⟩ = some (.slice ao 0 cap) := hm.box.at_ 2
      have HP := Veil.mk (show TrPostW N A m mv d to_ tab roots w (.returned (.tuple #[])) wr from ⟨rfl, hb, _, _, D', c, M, hw, hg, hT⟩)
      clear hm hw hg hT hb HS
      go_wp2
      exact bodyPost_end (results_none rfl _ _ _) rfl HP.out
    · have hTk : T = t ++ [k] := by simpa using hTk
      subst hTk
      have hlen : (t ++ [k]).length = t.length + 1 := by simp
      obtain ⟨g, rfl⟩ := hgg (by rw [hlen]; omega)
      have hkm := hg.on k (by simp)
      obtain ⟨nb, hnb⟩ := HC.out k (hT.snd k hkm)
      have hto : toOf d to_ k = to_ nb := by unfold toOf; rw [hnb]
      have hta : tabOf d tab k = tab nb := by unfold tabOf; rw [hnb]
      have hsm := hg.todo
      have hsm : t.length + 1 ≤ d.cells.length := by rw [← hlen]; exact hsm
      have x2 : wr.cell? ⟨m, 2, none⟩ = some (.slice (some ⟨g, 0, none⟩) (t.length + 1) cap) := by
        rw [hm.box.at_ 2]
        show some (Value.slice _ (t ++ [k]).length cap) = _
        rw [hlen]
      have x2f := hm.box.free 2
      have xk : wr.cell? ⟨g, t.length, none⟩ = some (.int .i64 ((k : Int) + 1)) := by
        rw [hm.tq.cellAt t.length (by show _ < (t ++ [k]).length * 1; rw [hlen]; omega)]
        show (todoV (t ++ [k]))[t.length]? = _
        simp
      have hcut : wr.ownsRow N 3 1 (.slice (some ⟨g, 0, none⟩) t.length cap) t.length (todoV t) := by
        have := own_take hm.tq (m := t.length) (by show _ ≤ (t ++ [k]).length; rw [hlen]; omega)
        have e : (todoV (t ++ [k])).take t.length = todoV t := by simp
        have e2 : List.take t.length (todoV (M, t ++ [k]).2) = todoV t := e
        rw [e2] at this
        exact this
      have tp : Touch (fun k => k = m) wr (wr.setCell ⟨m, 2, none⟩ (.slice (some ⟨g, 0, none⟩) t.length cap)) := Touch.put (S := fun k => k = m) rfl _ _
      have hm2 : MkW (wr.setCell ⟨m, 2, none⟩ (.slice (some ⟨g, 0, none⟩) t.length cap)) N A m mv (.slice (some ⟨g, 0, none⟩) t.length cap) pv' M t D' c := by
        refine ⟨⟨hm.box.put 2 _, own_touch hm.mo tp (fun j hj e => ((own_lab hm.mo j hj).ne hm.box.lab (by decide)) e), own_touch hcut tp (fun j hj e => ((own_lab hcut j hj).ne hm.box.lab (by decide)) e), hm.hm⟩, ?_⟩
        rcases hw.wm with h1 | ⟨bb, h1, h2, h3, h4⟩
        · exact .inl h1
        · have h5 := h3.touch tp (fun j hj e => by
            rcases h3.foot hj with h6 | h6
            · obtain ⟨es, clk, he⟩ := h3.blk
              exact map_lab he hm.box.lab (e.symm.trans h6)
            · exact h6.2.2.ne hm.box.lab (by decide) e)
          exact .inr ⟨bb, h1, h2, h5.1, Shuns.same h4 h5.2 (fun _ _ h => h)⟩
      have hb2 : TM N w (wr.setCell ⟨m, 2, none⟩ (.slice (some ⟨g, 0, none⟩) t.length cap)) := hb.trans (TM.of tp (fun j hj => by rw [hj]; exact hm.hm) (fun j hj hl => hl.ne hm.box.lab (by decide) hj))
      have q0 : (0 : Int) ≤ (t.length : Int) := by omega
      have q1 : (t.length : Int) + 1 - 1 = (t.length : Int) := by omega
      have q2 : (t.length : Int) < (t.length : Int) + 1 := by omega
      have hcap2 : t.length + 1 ≤ cap := by rw [← hlen]; exact hcap
      have q3 : (t.length : Int) ≤ (cap : Int) := by omega
      have q4 : (0 : Int) < (t.length : Int) + 1 := by omega
      have q5 : (t.length : Int) < 1000000 := by omega
      have HG := Veil.mk (And.intro hg (And.intro hT (And.intro hkm (And.intro hto (And.intro hm2 (And.intro hb2 (And.intro hmu (And.intro hta hcb))))))))
      clear hg hT hkm hto hm2 hb2 hm hw hb tp hcut hmu HS hlen hgg hta hcb
      go_upto_region 4 with (fail)
      generalize wr.setCell ⟨m, 2, none⟩ (.slice (some ⟨g, 0, none⟩) t.length cap) = W5 at HG ⊢
      obtain ⟨hg, hT, hkm, hto, hm2, hb2, hmu, hta, hcb⟩ := HG.out
      have hpmu : mu (M, t) < mu (M, t ++ [k]) := pop_mu
      have HFA := HF.out (M, t) _ _ D' c k nb W5 (pop_good hg) hnb (by omega) (hb2.below hNw) hm2
      have HTL := Veil.mk HFA.1
      have HFO := Veil.mk HFA.2
      clear HFA hpmu hg hT hkm hto hm2 hb2 hmu hta hcb x2 x2f xk
      go_wp2_with (first | (go_at_call 37; ((with_reducible refine HFO.out.mono ?_); rintro e9 w9 ⟨rfl, hb9, tv9, pv9, D9, hm9, hw9⟩)))
      obtain ⟨hg, hT, hkm, hto, hm2, hb2, hmu, hta, hcb⟩ := HG.out
      obtain ⟨hgo, hfo⟩ := folP_fold (d := d) (l := to_ nb ++ wtOf D' ((k : Int) + 1)) (wtOf D') (pop_good hg) (tab nb)
      have hmu9 := fol_mu (d := d) (l := to_ nb ++ wtOf D' ((k : Int) + 1)) (wtOf D') (pop_good hg) (tab nb)
      have hti := pinv_follow hT hkm (by rw [hto, hta]; exact hfo)
      have hpmu : mu (M, t) < mu (M, t ++ [k]) := pop_mu
      have hlt := HTL.out
      obtain ⟨S9, hS9⟩ : ∃ S9, (tab nb).foldl (pairP d) ((to_ nb ++ wtOf D' ((k : Int) + 1)).foldl (markP d) (M, t), wtOf D') = S9 := ⟨_, rfl⟩
      rw [hS9] at hgo hti hmu9 hm9 hw9
      rw [← hw9] at hti
      go_roundg (mu S9.1)
      case rel => exact ⟨S9.1, tv9, pv9, D9, _, hgo, hti, hm9, rfl, hb2.trans hb9, by omega⟩
      case measure => omega
end Go.Proofs.Ytkkbfadfgdjkdaa
