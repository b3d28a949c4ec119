/- Tables: Clear. -/
import Derived.Test.YthlhchaapdhbfaaFv
namespace Go.Proofs.Ythlhchaapdhbfaa
open Go.RowKit

def clr0 (T : Tab) : Tab := { sl := [], hs := [], nb := 0, cnt := 0, cur := T.cur }
theorem clr_obs (T : Tab) : obs (moveT (clr0 T) T.cur.length) = ([], (obs T).2.map fun c => (c.1, [])) := by
  unfold obs moveT clr0
  show (([] : List En), ((T.cur.take T.cur.length).map (moved []) ++ T.cur.drop T.cur.length).map _) = _
  rw [List.take_length, List.drop_length, List.append_nil, List.map_map, List.map_map]
  congr 1
  apply List.map_congr_left
  intro c _
  simp [moved, ents]
theorem clr_fin (T : Tab) : Good (moveT (clr0 T) T.cur.length) := by
  have e : moveT (clr0 T) T.cur.length = { sl := [], hs := [], nb := 0, cnt := 0, cur := T.cur.map fun c => (c.1, 0) } := by
    unfold moveT clr0
    show Tab.mk _ _ _ _ _ = Tab.mk _ _ _ _ _
    congr 1
    show (T.cur.take T.cur.length).map (moved []) ++ T.cur.drop T.cur.length = _
    rw [List.take_length, List.drop_length, List.append_nil]
    apply List.map_congr_left
    intro c _
    simp [moved, cntL]
  rw [e]
  exact ⟨⟨rfl, .inl rfl, Nat.le_refl _, fun i s h hs => by simp at hs, fun i s hs => by simp at hs, fun i j s t hs => by simp at hs, rfl, fun h hh => by simp at hh⟩, by simp, fun c hc => by
    obtain ⟨d, _, rfl⟩ := List.mem_map.1 hc
    exact Nat.le_refl _⟩
set_option maxHeartbeats 1000000 in
set_option maxRecDepth 100000 in
theorem clear_any (B t : Nat) (T : Tab) (vs vb vc : Value) (hcur : T.cur.length < 100000) (w : World) (h : TabAt w B t T vs vb vc) :
    Calls Try.prog 45 #[.pointer (some ⟨t, 0, none⟩)] w fun e w' => e = .returned (.tuple #[]) ∧ TabPost B t (moveT (clr0 T) T.cur.length) (Foot t T vs vb vc) w w' := by
  obtain ⟨cc, cl, rfl, hcl, hgc, hmc⟩ := slice_own h.oc
  have b1 := h.box.put 0 noRow
  have b2 := b1.put 1 noRow
  have b3 := b2.put 2 (.int .i64 0)
  have p0 : w.cell? ⟨t, 0, none⟩ = some vs := h.box.at_ 0
  have p1 : w.cell? ⟨t, 1, none⟩ = some vb := h.box.at_ 1
  have p2 : w.cell? ⟨t, 2, none⟩ = some (.int .i64 (T.cnt : Int)) := h.box.at_ 2
  have f0 := h.box.free 0
  have f1 := h.box.free 1
  have f2 := h.box.free 2
  have tt : Touch (fun k => k = t) w (((w.setCell ⟨t, 0, none⟩ noRow).setCell ⟨t, 1, none⟩ noRow).setCell ⟨t, 2, none⟩ (.int .i64 0)) := ((Touch.put (S := fun k => k = t) rfl _ _).trans (Touch.put (S := fun k => k = t) rfl _ _)).trans (Touch.put (S := fun k => k = t) rfl _ _)
  have hT1 : TabAt (((w.setCell ⟨t, 0, none⟩ noRow).setCell ⟨t, 1, none⟩ noRow).setCell ⟨t, 2, none⟩ (.int .i64 0)) B t (clr0 T) noRow noRow (.slice cc T.cur.length cl) :=
    ⟨b3, nil_own _ _ _ _, nil_own _ _ _ _, own_touch h.oc tt (fun k hk e => (own_lab h.oc k hk).ne h.box.lab (by decide) e), fun i c hc => ⟨(h.cs i c hc).1, (h.cs i c hc).2.touch tt (fun e => (h.cs i c hc).2.lab.ne h.box.lab (by decide) e)⟩, h.bt⟩
  have HT1 := Veil.mk (And.intro hT1 (tt.mono (S' := Foot t T vs vb (.slice cc T.cur.length cl)) (fun k hk => .inl hk)))
  have HH := Veil.mk h
  clear hT1 tt b1 b2 b3 h
  go_enter Try.func45, Try.ntmps45
  go_upto_region 2 with (fail)
  generalize (((w.setCell ⟨t, 0, none⟩ noRow).setCell ⟨t, 1, none⟩ noRow).setCell ⟨t, 2, none⟩ (.int .i64 0)) = w1 at HT1 ⊢
  clear p0 p1 p2 f0 f1 f2
  have t3 : w1.cell? ⟨t, 3, none⟩ = some (.slice cc T.cur.length cl) := HT1.out.1.box.at_ 3
  go_upto_region 3 with (fail)
  clear t3
  go_loopw [20] (fun i wx => ∃ k : Nat, k ≤ T.cur.length ∧ i = .int .i64 (k : Int) ∧ TabAt wx B t (moveT (clr0 T) k) noRow noRow (.slice cc T.cur.length cl) ∧ Touch (Foot t T vs vb (.slice cc T.cur.length cl)) w wx) (fun i _ => T.cur.length - (intOf i).toNat)
  case atStart => exact ⟨0, Nat.zero_le _, rfl, by rw [moveT_zero]; exact HT1.out.1, HT1.out.2⟩
  case round =>
    obtain ⟨k, hk, rfl, hTk, htk⟩ := hrel
    clear HT1
    by_cases hp : k < T.cur.length
    · have hc : (clr0 T).cur[k]? = some T.cur[k] := List.getElem?_eq_getElem hp
      obtain ⟨c, hce⟩ : ∃ c, c = T.cur[k] := ⟨_, rfl⟩
      rw [← hce] at hc
      clear hce
      obtain ⟨gc, rfl⟩ := hgc (by omega)
      obtain ⟨m1, m2⟩ := moveT_cur (clr0 T) k c hc
      have hbx := (hTk.cs k c m1).2
      have d1 : wr.cell? ⟨gc, k, none⟩ = some (.pointer (some ⟨c.1, 0, none⟩)) := by
        have := hTk.oc.cells (g := gc) rfl k (.pointer (some ⟨c.1, 0, none⟩)) (by unfold curC; rw [List.getElem?_map, m1]; rfl)
        rwa [add_off] at this
      have d2 : wr.cell? ⟨c.1, 1, none⟩ = some (.int .i64 (c.2 : Int)) := hbx.at_ 1
      have d3 := hbx.free 1
      have j0 : (0 : Int) ≤ (k : Int) := by omega
      have j1 : (k : Int) < (T.cur.length : Int) := by omega
      have hfin := hTk.setAt k c m1 (cntL ((clr0 T).sl.take c.2))
      rw [m2] at hfin
      have e0 : cntL ((clr0 T).sl.take c.2) = 0 := by simp [clr0, cntL]
      rw [e0] at hfin
      have tp : Touch (fun k => k = c.1) wr (wr.setCell ⟨c.1, 1, none⟩ (.int .i64 ((0 : Nat) : Int))) := Touch.put (S := fun k => k = c.1) rfl 1 _
      have htk3 := htk.trans (tp.mono (fun j hj => (.inr (.inr (.inr (.inr ⟨c, List.mem_of_getElem? hc, hj.symm⟩))) : Foot t T vs vb (.slice (some ⟨gc, 0, none⟩) T.cur.length cl) j)))
      have HFIN := Veil.mk (And.intro hfin htk3)
      clear hfin htk3 tp hTk htk m1 m2 hc hbx e0
      go_wp2
      go_roundw
      case rel => exact ⟨k + 1, by omega, by go_num, HFIN.out.1, HFIN.out.2⟩
      case measure => simp [intOf]; omega
    · have hlt2 : ¬ (k : Int) < (T.cur.length : Int) := by omega
      obtain rfl : k = T.cur.length := by omega
      have HD : Veil (TabPost B t (moveT (clr0 T) T.cur.length) (Foot t T vs vb (.slice cc T.cur.length cl)) w wr) := ⟨⟨_, _, _, hTk, htk, fun j hj => by
        have := moveT_foot (clr0 T) t T.cur.length noRow noRow (.slice cc T.cur.length cl) j hj
        rcases this with e | e | e | e | ⟨d, hd, e⟩
        · exact .inl (.inl e)
        · simp [Value.ownBlock] at e
        · simp [Value.ownBlock] at e
        · exact .inl (.inr (.inr (.inr (.inl e))))
        · exact .inl (.inr (.inr (.inr (.inr ⟨d, hd, e⟩))))⟩⟩
      clear hTk htk
      go_wp2
      go_end0
      exact ⟨rfl, HD.out⟩
theorem clear_tf {B t : Nat} {F : Nat → Prop} {O : Ob} {w : World} (h : Tf B t F O w) (h2 : O.2.length < 100000) :
    Calls Try.prog 45 #[.pointer (some ⟨t, 0, none⟩)] w fun e w' => e = .returned (.tuple #[]) ∧ PutP B t F ([], O.2.map fun c => (c.1, [])) w w' := by
  obtain ⟨T, vs, vb, vc, hT, hG, ho, rfl⟩ := h
  obtain ⟨s1, s2⟩ := obs_sizes hG ho
  refine (clear_any B t T vs vb vc (by omega) w hT).mono ?_
  rintro e w' ⟨rfl, hp⟩
  exact ⟨rfl, Tf.post (clr_fin T) (by rw [clr_obs, ho]) hp⟩
end Go.Proofs.Ythlhchaapdhbfaa
