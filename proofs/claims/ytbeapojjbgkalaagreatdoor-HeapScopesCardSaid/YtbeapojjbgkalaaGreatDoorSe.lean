/- Package arena: trace, bodies that are only followed. -/
import Derived.Test.YtbeapojjbgkalaaGreatDoorSc
import Derived.Test.YtbeapojjbgkalaaGreatDoorSd
namespace Go.Proofs.YtbeapojjbgkalaaGreatDoor
open Go Go.RowKit

/-- How trace ends: all that is reachable is marked, and no more. -/
def TrPost (N A m : Nat) (mv : Value) (d : AD) (to_ : Bd → List Int) (roots : List Int) (w : World) (e : Ending) (w' : World) : Prop :=
  e = .returned (.tuple #[]) ∧ TM N w w' ∧ ∃ tv' M, MkAt w' N A m mv tv' M [] ∧ MGood d (M, []) ∧ TInv d to_ roots (M, [])
set_option maxHeartbeats 4000000 in
set_option maxRecDepth 100000 in
theorem trace_any (B A N m : Nat) (cv fv rv mv tv : Value) (d : AD) (st : List Bool × List Nat) (hg : MGood d st) (hL : d.cells.length < 1000000) (to_ : Bd → List Int) (roots : List Int) (hT : TInv d to_ roots st) (w : World) (hNw : N ≤ w.heap.size)
    (hC : ∀ k, Reach d to_ roots k → ∃ nb, d.cells[k]? = some (some nb))
    (h : ArAt w B A cv fv rv d) (hN : ∀ j, AFoot A cv fv rv j → j < N) (hn : ∀ k b, Reach d to_ roots k → d.cells[k]? = some (some b) → PlB b ∧ FolB N w b (to_ b)) (hm : MkAt w N A m mv tv st.1 st.2) :
    Calls Tryz.prog 58 #[.pointer (some ⟨m, 0, none⟩)] w (TrPost N A m mv d to_ roots w) := by
  have HA := Veil.mk (And.intro h (And.intro hN hn))
  have HC := Veil.mk hC
  have HS : Veil (∃ st' tv', MGood d st' ∧ TInv d to_ roots st' ∧ MkAt w N A m mv tv' st'.1 st'.2 ∧ mu st' = mu st) := ⟨st, tv, hg, hT, hm, rfl⟩
  have HF : Veil (∀ (st : List Bool × List Nat) (tv : Value) (k : Nat) (nb : Bd) (w' : World), MGood d st → Reach d to_ roots k → d.cells[k]? = some (some nb) → Below N w w' → MkAt w' N A m mv tv st.1 st.2 → Calls Tryz.prog 89 #[.pointer (some ⟨m, 0, none⟩), .int .i64 ((k : Int) + 1)] w' (fun e w'' => e = .returned (.tuple #[]) ∧ TM N w' w'' ∧ ∃ tv', MkAt w'' N A m mv tv' ((to_ nb).foldl (markP d) st).1 ((to_ nb).foldl (markP d) st).2)) := ⟨fun st tv k nb w' hg hr hk hb hm =>
    follow_any B A N m cv fv rv mv tv d st hg hL (to_ nb) k nb hk w' (by have := hb.size; omega) (h.onN hN hb) hN (hn k nb hr hk).1 ((hn k nb hr hk).2.on hb) hm⟩
  clear hC h hN hn hm hT hg
  obtain ⟨K, hK⟩ : ∃ K, mu st = K := ⟨_, rfl⟩
  rw [hK] at HS
  clear hK
  go_enter Tryz.func58, Tryz.ntmps58
  go_wp2
  go_loopg [] K (fun n wr => ∃ st tv', MGood d st ∧ TInv d to_ roots st ∧ MkAt wr N A m mv tv' st.1 st.2 ∧ mu st = n ∧ TM N w wr)
  case atStart =>
    obtain ⟨st', tv', h1, h2, h3, h4⟩ := HS.out
    exact ⟨st', tv', h1, h2, h3, h4, TM.refl _ _⟩
  case round =>
    obtain ⟨⟨M, T⟩, tv', hg, hT, hm, hmu, hb⟩ := hrel
    obtain ⟨ao, cap, rfl, hcap, hgg, hmx⟩ := slice_own hm.tq
    rcases List.eq_nil_or_concat T with rfl | ⟨t, k, hTk⟩
    · have x2 : wr.cell? ⟨m, 2, none⟩ = some (.slice ao 0 cap) := hm.box.at_ 2
      have HP := Veil.mk (show TrPost N A m mv d to_ roots w (.returned (.tuple #[])) wr from ⟨rfl, hb, _, M, hm, hg, hT⟩)
      clear hm hg hT hb HS
      go_wp2
      exact bodyPost_end (results_none rfl _ _ _) rfl HP.out
    · have hTk : T = t ++ [k] := by simpa using hTk
      subst hTk
      have hlen : (t ++ [k]).length = t.length + 1 := by simp
      obtain ⟨g, rfl⟩ := hgg (by rw [hlen]; omega)
      have hkm := hg.on k (by simp)
      obtain ⟨nb, hnb⟩ := HC.out k (hT.snd k hkm)
      have hto : toOf d to_ k = to_ nb := by unfold toOf; rw [hnb]
      have hsm := hg.todo
      have hsm : t.length + 1 ≤ d.cells.length := by rw [← hlen]; exact hsm
      have x2 : wr.cell? ⟨m, 2, none⟩ = some (.slice (some ⟨g, 0, none⟩) (t.length + 1) cap) := by
        rw [hm.box.at_ 2]
        show some (Value.slice _ (t ++ [k]).length cap) = _
        rw [hlen]
      have x2f := hm.box.free 2
      have xk : wr.cell? ⟨g, t.length, none⟩ = some (.int .i64 ((k : Int) + 1)) := by
        rw [hm.tq.cellAt t.length (by show _ < (t ++ [k]).length * 1; rw [hlen]; omega)]
        show (todoV (t ++ [k]))[t.length]? = _
        simp
      have hcut : wr.ownsRow N 3 1 (.slice (some ⟨g, 0, none⟩) t.length cap) t.length (todoV t) := by
        have := own_take hm.tq (m := t.length) (by show _ ≤ (t ++ [k]).length; rw [hlen]; omega)
        have e : (todoV (t ++ [k])).take t.length = todoV t := by simp
        have e2 : List.take t.length (todoV (M, t ++ [k]).2) = todoV t := e
        rw [e2] at this
        exact this
      have tp : Touch (fun k => k = m) wr (wr.setCell ⟨m, 2, none⟩ (.slice (some ⟨g, 0, none⟩) t.length cap)) := Touch.put (S := fun k => k = m) rfl _ _
      have hm2 : MkAt (wr.setCell ⟨m, 2, none⟩ (.slice (some ⟨g, 0, none⟩) t.length cap)) N A m mv (.slice (some ⟨g, 0, none⟩) t.length cap) M t :=
        ⟨hm.box.put 2 _, own_touch hm.mo tp (fun j hj e => ((own_lab hm.mo j hj).ne hm.box.lab (by decide)) e), own_touch hcut tp (fun j hj e => ((own_lab hcut j hj).ne hm.box.lab (by decide)) e), hm.hm⟩
      have hb2 : TM N w (wr.setCell ⟨m, 2, none⟩ (.slice (some ⟨g, 0, none⟩) t.length cap)) := hb.trans (TM.of tp (fun j hj => by rw [hj]; exact hm.hm) (fun j hj hl => hl.ne hm.box.lab (by decide) hj))
      have q0 : (0 : Int) ≤ (t.length : Int) := by omega
      have q1 : (t.length : Int) + 1 - 1 = (t.length : Int) := by omega
      have q2 : (t.length : Int) < (t.length : Int) + 1 := by omega
      have hcap2 : t.length + 1 ≤ cap := by rw [← hlen]; exact hcap
      have q3 : (t.length : Int) ≤ (cap : Int) := by omega
      have q4 : (0 : Int) < (t.length : Int) + 1 := by omega
      have q5 : (t.length : Int) < 1000000 := by omega
      have HG := Veil.mk (And.intro hg (And.intro hT (And.intro hkm (And.intro hto (And.intro hm2 (And.intro hb2 hmu))))))
      clear hg hT hkm hto hm2 hb2 hm hb tp hcut hmu HS hlen hgg
      go_upto_region 4 with (fail)
      generalize wr.setCell ⟨m, 2, none⟩ (.slice (some ⟨g, 0, none⟩) t.length cap) = W5 at HG ⊢
      obtain ⟨hg, hT, hkm, hto, hm2, hb2, hmu⟩ := HG.out
      have HFO := Veil.mk (HF.out (M, t) _ k nb W5 (pop_good hg) (hT.snd k hkm) hnb (hb2.below hNw) hm2)
      clear hg hT hkm hto hm2 hb2 hmu x2 x2f xk
      go_wp2_with (first | (go_at_call 89; ((with_reducible refine HFO.out.mono ?_); rintro e9 w9 ⟨rfl, hb9, tv9, hm9⟩)))
      obtain ⟨hg, hT, hkm, hto, hm2, hb2, hmu⟩ := HG.out
      have hgo := gone_fold (d := d) (to_ nb) (M, t) (pop_good hg)
      have hti := tinv_follow hT hkm (by rw [hto]; exact hgo)
      go_roundg (mu ((to_ nb).foldl (markP d) (M, t)))
      case rel => exact ⟨_, tv9, hgo.good, hti, hm9, rfl, hb2.trans hb9⟩
      case measure =>
        have h1 := hgo.mu
        have h2 : mu (M, t) < mu (M, t ++ [k]) := pop_mu
        omega
end Go.Proofs.YtbeapojjbgkalaaGreatDoor
