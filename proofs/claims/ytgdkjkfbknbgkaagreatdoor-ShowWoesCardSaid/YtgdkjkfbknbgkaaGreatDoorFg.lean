/- Tables: moveCursors. -/
import Derived.Test.YtgdkjkfbknbgkaaGreatDoorFe
import Derived.Laws.MakeOwn
namespace Go.Proofs.YtgdkjkfbknbgkaaGreatDoor
open Go.RowKit

/-- How many live ones there are. -/
def cntL (l : List Sl) : Nat := (l.filter (fun s => s.live)).length
theorem cntL_snoc (l : List Sl) (s : Sl) : cntL (l ++ [s]) = cntL l + if s.live then 1 else 0 := by
  unfold cntL
  rw [List.filter_append, List.length_append]
  rcases h : s.live with _ | _ <;> simp [List.filter, h]
theorem cntL_le (l : List Sl) : cntL l ≤ l.length := List.length_filter_le _ _
/-- The row before, when i slots have been gone over. -/
def befC (l : List Sl) (i : Nat) : List Value := (List.range (l.length + 1)).map fun j => .int .i64 (if j ≤ i then (cntL (l.take j) : Int) else 0)
def moved (l : List Sl) (c : Nat × Nat) : Nat × Nat := (c.1, cntL (l.take c.2))
def moveT (T : Tab) (k : Nat) : Tab := { T with cur := (T.cur.take k).map (moved T.sl) ++ T.cur.drop k }

theorem made_zero (n : Nat) : (madeCells (Value.int .i64 0).cells (n * 1)).toList = List.replicate n (.int .i64 0) := by
  apply List.ext_getElem
  · simp [madeCells]
  · intro i h1 h2
    simp [madeCells, Value.cells, Nat.mod_one]
theorem bef_zero (l : List Sl) : (madeCells (Value.int .i64 0).cells ((l.length + 1) * 1)).toList = befC l 0 := by
  rw [made_zero]
  apply List.ext_getElem
  · simp [befC]
  · intro i h1 h2
    simp only [befC, List.getElem_replicate, List.getElem_map, List.getElem_range]
    split
    · have : i = 0 := by omega
      subst this; rfl
    · rfl
theorem bef_at (l : List Sl) (k j : Nat) (hj : j ≤ l.length) (hjk : j ≤ k) : (befC l k)[j]? = some (.int .i64 (cntL (l.take j) : Int)) := by
  unfold befC
  rw [List.getElem?_map, List.getElem?_range (by omega)]
  simp [hjk]
theorem bef_new (l : List Sl) (k : Nat) (hk : k < l.length) : (befC l k)[k + 1]? = some (.int .i64 0) := by
  unfold befC
  rw [List.getElem?_map, List.getElem?_range (by omega)]
  simp
  intro h; omega
theorem bef_set (l : List Sl) (k : Nat) (hk : k < l.length) (s : Sl) (hs : l[k]? = some s) (v : Int) (hv : v = (cntL (l.take k) : Int) + if s.live then 1 else 0) : (befC l k).set (k + 1) (.int .i64 v) = befC l (k + 1) := by
  apply List.ext_getElem?
  intro i
  by_cases e : k + 1 = i
  · subst e
    rw [List.getElem?_set_self (by simp [befC]; omega), bef_at l (k + 1) (k + 1) (by omega) (Nat.le_refl _), List.take_add_one, hs]
    show _ = some (Value.int .i64 (cntL (l.take k ++ [s]) : Int))
    rw [cntL_snoc, hv]
    cases s.live <;> simp
  · rw [List.getElem?_set_ne e]
    unfold befC
    rw [List.getElem?_map, List.getElem?_map]
    by_cases hi : i < l.length + 1
    · rw [List.getElem?_range hi]
      simp only [Option.map_some]
      congr 2
      by_cases h1 : i ≤ k
      · rw [if_pos h1, if_pos (by omega)]
      · rw [if_neg h1, if_neg (by omega)]
    · rw [List.getElem?_eq_none (by simp; omega)]
      rfl
theorem TabAt.setAt {w : World} {B t : Nat} {T : Tab} {vs vb vc : Value} (h : TabAt w B t T vs vb vc) (k : Nat) (c : Nat × Nat) (hc : T.cur[k]? = some c) (a : Nat) :
    TabAt (w.setCell ⟨c.1, 1, none⟩ (.int .i64 (a : Int))) B t { T with cur := T.cur.set k (c.1, a) } vs vb vc := by
  have hb := (h.cs k c hc).2
  have tp : Touch (fun k => k = c.1) w (w.setCell ⟨c.1, 1, none⟩ (.int .i64 (a : Int))) := Touch.put (S := fun k => k = c.1) rfl 1 _
  refine ⟨h.box.touch tp (fun e => (h.box.lab.ne hb.lab (by decide)) e), own_touch h.os tp (fun k hk e => ((own_lab h.os k hk).ne hb.lab (by decide)) e), own_touch h.ob tp (fun k hk e => ((own_lab h.ob k hk).ne hb.lab (by decide)) e), ?_, ?_, h.bt⟩
  · have := own_touch h.oc tp (fun k hk e => ((own_lab h.oc k hk).ne hb.lab (by decide)) e)
    show World.ownsRow _ B _ 1 vc (T.cur.set k (c.1, a)).length (curC (T.cur.set k (c.1, a)))
    rw [List.length_set]
    have e : curC (T.cur.set k (c.1, a)) = curC T.cur := by
      unfold curC
      rw [List.map_set]
      apply List.ext_getElem?
      intro i
      by_cases hi : k = i
      · subst hi
        rw [List.getElem?_set_self (by simpa using (List.getElem?_eq_some_iff.1 hc).1), List.getElem?_map, hc]; rfl
      · rw [List.getElem?_set_ne hi]
    rw [e]
    exact this
  · intro i d hd
    by_cases hi : k = i
    · subst hi
      rw [List.getElem?_set_self (List.getElem?_eq_some_iff.1 hc).1] at hd
      cases hd
      exact ⟨(h.cs k c hc).1, hb.put 1 _⟩
    · rw [List.getElem?_set_ne hi] at hd
      refine ⟨(h.cs i d hd).1, (h.cs i d hd).2.touch tp (fun e => hi ?_)⟩
      have h1 := (h.cs i d hd).2
      rw [e] at h1
      have := (show w.heap[c.1]? = _ from hb).symm.trans h1
      simp at this
      have := this.2
      omega
theorem moveT_cur (T : Tab) (k : Nat) (c : Nat × Nat) (hc : T.cur[k]? = some c) : (moveT T k).cur[k]? = some c ∧ { moveT T k with cur := (moveT T k).cur.set k (c.1, cntL (T.sl.take c.2)) } = moveT T (k + 1) := by
  have hk := (List.getElem?_eq_some_iff.1 hc).1
  have h1 : ((T.cur.take k).map (moved T.sl)).length = k := by rw [List.length_map, List.length_take]; omega
  refine ⟨?_, ?_⟩
  · show ((T.cur.take k).map (moved T.sl) ++ T.cur.drop k)[k]? = _
    rw [List.getElem?_append_right (by omega), h1, Nat.sub_self, List.getElem?_drop]
    exact hc
  · have key : ((T.cur.take k).map (moved T.sl) ++ T.cur.drop k).set k (c.1, cntL (T.sl.take c.2)) = (T.cur.take (k + 1)).map (moved T.sl) ++ T.cur.drop (k + 1) := by
     rw [List.set_append_right _ _ (by omega), h1, Nat.sub_self, List.take_add_one, hc, List.drop_eq_getElem_cons hk]
     have e : T.cur[k] = c := by
       have := List.getElem?_eq_getElem hk
       rw [hc] at this; cases this; rfl
     rw [e]
     simp [moved]
    show Tab.mk _ _ _ _ _ = Tab.mk _ _ _ _ _
    rw [← key]
    rfl
theorem moveT_len (T : Tab) (k : Nat) : (moveT T k).cur.length = T.cur.length := by
  show ((T.cur.take k).map (moved T.sl) ++ T.cur.drop k).length = _
  rw [List.length_append, List.length_map, List.length_take, List.length_drop]; omega
theorem moveT_foot (T : Tab) (t k : Nat) (vs vb vc : Value) (j : Nat) : Foot t (moveT T k) vs vb vc j → Foot t T vs vb vc j := by
  rintro (h | h | h | h | ⟨c, hc, rfl⟩)
  · exact .inl h
  · exact .inr (.inl h)
  · exact .inr (.inr (.inl h))
  · exact .inr (.inr (.inr (.inl h)))
  · refine .inr (.inr (.inr (.inr ?_)))
    rcases List.mem_append.1 (show c ∈ (T.cur.take k).map (moved T.sl) ++ T.cur.drop k from hc) with h | h
    · obtain ⟨d, hd, rfl⟩ := List.mem_map.1 h
      exact ⟨d, List.mem_of_mem_take hd, rfl⟩
    · exact ⟨c, List.mem_of_mem_drop h, rfl⟩
theorem moveT_zero (T : Tab) : moveT T 0 = T := by unfold moveT; simp
theorem Tryz.infoJ : (Tryz.prog.info? 3).map (fun i => (i.zero, i.size, i.bytes)) = some (some (.int .i64 0), 1, 8) := by kernel_rfl
/-- moveCursors turns the cursors alone. -/
def MovePost (B t : Nat) (T : Tab) (vs vb vc : Value) (w w' : World) : Prop := TabAt w' B t (moveT T T.cur.length) vs vb vc ∧ Touch (Foot t T vs vb vc) w w'
set_option maxHeartbeats 4000000 in
set_option maxRecDepth 100000 in
theorem move_any (B t : Nat) (T : Tab) (vs vb vc : Value) (hcap : T.sl.length < 100000) (hcur : T.cur.length < 100000) (hat : ∀ c ∈ T.cur, c.2 ≤ T.sl.length) (w : World) (h : TabAt w B t T vs vb vc) :
    Calls Tryz.prog 107 #[.pointer (some ⟨t, 0, none⟩)] w fun e w' => e = .returned (.tuple #[]) ∧ MovePost B t T vs vb vc w w' := by
  obtain ⟨cc, cl, rfl, hcl, hgc, hmc⟩ := slice_own h.oc
  obtain ⟨sa, cs, rfl, hcs, hgs2, hms⟩ := slice_own h.os
  have t0 : w.cell? ⟨t, 0, none⟩ = some (.slice sa T.sl.length cs) := h.box.at_ 0
  have t3 : w.cell? ⟨t, 3, none⟩ = some (.slice cc T.cur.length cl) := h.box.at_ 3
  rcases Nat.eq_zero_or_pos T.cur.length with h0 | hpos
  · have hD : MovePost B t T (.slice sa T.sl.length cs) vb (.slice cc T.cur.length cl) w w := by
      have e : T.cur = [] := List.eq_nil_of_length_eq_zero h0
      have e2 : moveT T T.cur.length = T := by obtain ⟨a, b, c, d, f⟩ := T; cases e; rfl
      unfold MovePost
      rw [e2]
      exact ⟨h, Touch.refl _ _⟩
    have HD := Veil.mk hD
    have t3' : w.cell? ⟨t, 3, none⟩ = some (.slice cc 0 cl) := by rw [t3, h0]
    have hq : ((0 : Int) == 0) = true := rfl
    clear hD h hgc hgs2 hcl hat t3 h0
    go_enter Tryz.func107, Tryz.ntmps107
    go_wp2
    exact bodyPost_ret (results_none rfl _ _ _) rfl ⟨rfl, HD.out⟩
  · have q0 : ((T.cur.length : Int) == 0) = false := beq_eq_false_iff_ne.2 (by omega)
    obtain ⟨i0, hi, hz0, hz1, hz2⟩ := info_parts Tryz.infoJ
    obtain ⟨w1, hr, hown1, hg1⟩ := run_make_full (P := Tryz.prog) w w.heap.size 53 3 i0 (.int .i64 0) 1 Tryz.underlying53 hi hz0 hz1 .i64 .i64 (T.sl.length + 1) (by rw [hz2]; omega) (by unfold maxLen; omega) (Nat.le_refl _)
    rw [show ((T.sl.length + 1 : Nat) : Int) = (T.sl.length : Int) + 1 by omega] at hr
    rw [bef_zero T.sl] at hown1
    have hb1 : Below w.heap.size w w1 := (Below.refl _ _).grown hg1 (Nat.le_refl _) (fun k h => by cases h)
    have hT1 : TabAt w1 B t T (.slice sa T.sl.length cs) vb (.slice cc T.cur.length cl) := h.on hb1
    have s0 : w1.cell? ⟨t, 0, none⟩ = some (.slice sa T.sl.length cs) := hT1.box.at_ 0
    have s3 : w1.cell? ⟨t, 3, none⟩ = some (.slice cc T.cur.length cl) := hT1.box.at_ 3
    have HT1 := Veil.mk hT1
    have HT := Veil.mk h
    have e1 : IntKind.i64.wrap ((T.sl.length : Int) + 1) = (T.sl.length : Int) + 1 := IntWalk.i64_in _ (by omega)
    have hw1 := hb1.size
    have HAT := Veil.mk hat
    clear hT1 h hg1 hat
    go_enter Tryz.func107, Tryz.ntmps107
    go_wp2
    go_loopw [25] (fun i wr => ∃ k : Nat, k ≤ T.sl.length ∧ i = .int .i64 (k : Int) ∧ wr.ownsRow w.heap.size 3 1 (.slice (some ⟨w.heap.size, 0, none⟩) (T.sl.length + 1) (T.sl.length + 1)) (T.sl.length + 1) (befC T.sl k) ∧ Below w.heap.size w wr) (fun i _ => T.sl.length - (intOf i).toNat)
    case atStart => exact ⟨0, Nat.zero_le _, rfl, hown1, hb1⟩
    case round =>
      obtain ⟨k, hk, rfl, hown, hbw⟩ := hrel
      clear hown1 hb1 hr s0 s3
      by_cases hp : k < T.sl.length
      · obtain ⟨gs, rfl⟩ := hgs2 (by omega)
        have hsp : T.sl[k]? = some T.sl[k] := List.getElem?_eq_getElem hp
        obtain ⟨s, hse⟩ : ∃ s, s = T.sl[k] := ⟨_, rfl⟩
        rw [← hse] at hsp
        clear hse
        have hT2 := HT.out.on hbw
        obtain ⟨k0, k1, k2, v0, v1, v2, ff, fl, fn⟩ := hT2.slot k s hsp
        have b0 := hown.cells (g := w.heap.size) rfl k (.int .i64 (cntL (T.sl.take k) : Int)) (bef_at T.sl k k (by omega) (Nat.le_refl _))
        have b1 := hown.cells (g := w.heap.size) rfl (k + 1) (.int .i64 0) (bef_new T.sl k (by omega))
        rw [add_off] at b0 b1
        have b2 := own_free hown (k + 1)
        have i0 : (0 : Int) ≤ (k : Int) := by omega
        have i1 : (k : Int) < (T.sl.length : Int) := by omega
        have i2 : IntKind.i64.wrap ((k : Int) + 1) = (k : Int) + 1 := IntWalk.i64_in _ (by omega)
        have i3 : (0 : Int) ≤ (k : Int) + 1 := by omega
        have i4 : ((k : Int) + 1).toNat = k + 1 := by omega
        have nn := World.new_ne wr _ b0
        have nl : w.heap.size < wr.heap.size := World.block_lt_of_cell? wr _ b0
        have hcl2 := cntL_le (T.sl.take k)
        rw [List.length_take] at hcl2
        have i5 : IntKind.i64.wrap ((cntL (T.sl.take k) : Int) + 1) = (cntL (T.sl.take k) : Int) + 1 := IntWalk.i64_in _ (by omega)
        have HB0 := Veil.mk (fun v hv => bef_set T.sl k hp s hsp v hv)
        clear hsp hT2
        rcases hlv : s.live with _ | _
        · rw [hlv] at fl HB0
          have hfin := (own_put hown (k + 1) (.int .i64 (cntL (T.sl.take k) : Int)))
          rw [HB0.out _ (by simp)] at hfin
          clear hlv hown
          go_wp2
          exact ⟨⟨k + 1, by omega, by go_num, hfin.alloc _, (hbw.setCell (p := ⟨w.heap.size, k + 1, none⟩) (Nat.le_refl _) _).alloc (by simp; omega) _⟩, by simp [intOf]; omega⟩
        · rw [hlv] at fl HB0
          have hfin := own_put (own_put hown (k + 1) (.int .i64 (cntL (T.sl.take k) : Int))) (k + 1) (.int .i64 ((cntL (T.sl.take k) : Int) + 1))
          rw [List.set_set, HB0.out _ (by simp)] at hfin
          clear hlv hown
          go_wp2
          exact ⟨⟨k + 1, by omega, by go_num, hfin.alloc _, ((hbw.setCell (p := ⟨w.heap.size, k + 1, none⟩) (Nat.le_refl _) _).setCell (p := ⟨w.heap.size, k + 1, none⟩) (Nat.le_refl _) _).alloc (by simp; omega) _⟩, by simp [intOf]; omega⟩
      · obtain rfl : k = T.sl.length := by omega
        have hlt' : ¬ (T.sl.length : Int) < (T.sl.length : Int) := by omega
        have hT2 := HT.out.on hbw
        have s3 : wr.cell? ⟨t, 3, none⟩ = some (.slice cc T.cur.length cl) := hT2.box.at_ 3
        obtain ⟨gc, rfl⟩ := hgc hpos
        go_wp2
        obtain ⟨wo, rfl⟩ : ∃ wo : World, wo = wr := ⟨_, rfl⟩
        go_loopw [53] (fun i wx => ∃ k : Nat, k ≤ T.cur.length ∧ i = .int .i64 (k : Int) ∧ TabAt wx B t (moveT T k) (.slice sa T.sl.length cs) vb (.slice (some ⟨gc, 0, none⟩) T.cur.length cl) ∧ wx.ownsRow w.heap.size 3 1 (.slice (some ⟨w.heap.size, 0, none⟩) (T.sl.length + 1) (T.sl.length + 1)) (T.sl.length + 1) (befC T.sl T.sl.length) ∧ Touch (Foot t T (.slice sa T.sl.length cs) vb (.slice (some ⟨gc, 0, none⟩) T.cur.length cl)) wo wx) (fun i _ => T.cur.length - (intOf i).toNat)
        case atStart => exact ⟨0, Nat.zero_le _, rfl, by rw [moveT_zero]; exact hT2, hown, Touch.refl _ _⟩
        case round =>
          obtain ⟨k, hk, rfl, hTk, hown2, htk⟩ := hrel
          clear hT2 s3 hown t0 t3
          by_cases hp : k < T.cur.length
          · have hc : T.cur[k]? = some T.cur[k] := List.getElem?_eq_getElem hp
            obtain ⟨c, hce⟩ : ∃ c, c = T.cur[k] := ⟨_, rfl⟩
            rw [← hce] at hc
            clear hce
            have hca := HAT.out c (List.mem_of_getElem? hc)
            obtain ⟨m1, m2⟩ := moveT_cur T k c hc
            have hbx := (hTk.cs k c m1).2
            have d0 : wo.heap.size ≤ wr.heap.size := htk.size
            have d1 : wr.cell? ⟨gc, k, none⟩ = some (.pointer (some ⟨c.1, 0, none⟩)) := by
              have := hTk.oc.cells (g := gc) rfl k (.pointer (some ⟨c.1, 0, none⟩)) (by unfold curC; rw [List.getElem?_map, m1]; rfl)
              rwa [add_off] at this
            have d2 : wr.cell? ⟨c.1, 1, none⟩ = some (.int .i64 (c.2 : Int)) := hbx.at_ 1
            have d3 := hbx.free 1
            have d4 : wr.cell? ⟨w.heap.size, c.2, none⟩ = some (.int .i64 (cntL (T.sl.take c.2) : Int)) := by
              have := hown2.cells (g := w.heap.size) rfl c.2 _ (bef_at T.sl T.sl.length c.2 hca hca)
              rwa [add_off] at this
            have j0 : (0 : Int) ≤ (k : Int) := by omega
            have j1 : (k : Int) < (T.cur.length : Int) := by omega
            have j2 : (0 : Int) ≤ (c.2 : Int) := by omega
            have j3 : (c.2 : Int) < (T.sl.length : Int) + 1 := by omega
            have j4 : (c.2 : Int) < ((T.sl.length + 1 : Nat) : Int) := by omega
            have hfin := hTk.setAt k c m1 (cntL (T.sl.take c.2))
            rw [m2] at hfin
            have tp : Touch (fun k => k = c.1) wr (wr.setCell ⟨c.1, 1, none⟩ (.int .i64 (cntL (T.sl.take c.2) : Int))) := Touch.put (S := fun k => k = c.1) rfl 1 _
            have hown3 := own_touch hown2 tp (fun k hk e => ((own_lab hown2 k hk).ne hbx.lab (by decide)) e)
            have htk3 := htk.trans (tp.mono (fun j hj => (.inr (.inr (.inr (.inr ⟨c, List.mem_of_getElem? hc, hj.symm⟩))) : Foot t T (.slice sa T.sl.length cs) vb (.slice (some ⟨gc, 0, none⟩) T.cur.length cl) j)))
            have HFIN := Veil.mk (And.intro hfin (And.intro hown3 htk3))
            clear hfin hown3 htk3 tp hTk hown2 htk m1 m2 hc hbx
            go_wp2
            exact ⟨⟨k + 1, by omega, by go_num, HFIN.out.1, HFIN.out.2.1, HFIN.out.2.2⟩, by simp [intOf]; omega⟩
          · obtain rfl : k = T.cur.length := by omega
            have hlt2 : ¬ (T.cur.length : Int) < (T.cur.length : Int) := by omega
            go_wp2
            go_end0
            exact ⟨rfl, hTk, (Touch.of_below hbw).trans htk⟩
end Go.Proofs.YtgdkjkfbknbgkaaGreatDoor
