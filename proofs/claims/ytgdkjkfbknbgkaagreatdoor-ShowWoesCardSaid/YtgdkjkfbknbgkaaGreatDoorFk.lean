/- Tables: Put. -/
import Derived.Test.YtgdkjkfbknbgkaaGreatDoorFj
namespace Go.Proofs.YtgdkjkfbknbgkaaGreatDoor
open Go.RowKit

theorem find_all (B t : Nat) (T : Tab) (vs vb vc : Value) (hG : Inv T) (k : Vt) (hk : k.2.2.size ≤ 1000) (w : World) (h : TabAt w B t T vs vb vc) :
    Calls Tryz.prog 87 #[.pointer (some ⟨t, 0, none⟩), valV k] w (FindPost T k w) := by
  rcases Nat.eq_zero_or_pos T.nb with h0 | hpos
  · obtain ⟨ab, cb, rfl, hcb, hgb, hmb⟩ := slice_own h.ob
    have hb := h.box
    rw [h0] at hb
    exact find_empty t cb ab vs (.int .i64 (T.cnt : Int)) vc T (List.eq_nil_of_length_eq_zero (by have := hG.cap; omega)) k w hb
  · exact find_any B t T vs vb vc hG hpos k hk w h
theorem keyT_size2 (x : Vt) (h : x.2.2.size ≤ 1000) : (keyT x).2.2.size ≤ 1000 := by
  unfold keyT
  split
  · exact Nat.zero_le _
  · exact h
theorem slFlat_setc : ∀ (l : List Sl) (i c : Nat) (s s' : Sl) (u : Value), l[i]? = some s → c < 9 → (slCells s).set c u = slCells s' → (slFlat l).set (i * 9 + c) u = slFlat (l.set i s')
  | [], i, c, s, s', u, h, _, _ => by simp at h
  | x :: l, 0, c, s, s', u, h, hc, he => by
    simp at h; subst h
    show (slCells x ++ slFlat l).set (0 * 9 + c) u = slCells s' ++ slFlat l
    rw [Nat.zero_mul, Nat.zero_add, List.set_append_left _ _ (by simpa [slCells] using hc), he]
  | x :: l, i + 1, c, s, s', u, h, hc, he => by
    have h' : l[i]? = some s := by simpa using h
    show (slCells x ++ slFlat l).set ((i + 1) * 9 + c) u = slCells x ++ slFlat (l.set i s')
    rw [List.set_append_right _ _ (by simp [slCells]; omega), ← slFlat_setc l i c s s' u h' hc he]
    congr 2
    simp [slCells]; omega
theorem own_putN {w : World} {B g n cap size : Nat} {e : TypeId} {xs : List Value} (h : w.ownsRow B e size (.slice (some ⟨g, 0, none⟩) n cap) n xs) (i : Nat) (u : Value) : (w.setCell ⟨g, i, none⟩ u).ownsRow B e size (.slice (some ⟨g, 0, none⟩) n cap) n (xs.set i u) := by
  refine ⟨by rw [List.length_set]; exact h.1, ?_⟩
  rcases h.2 with ⟨h1, _⟩ | ⟨g', cap', cur, h1, h2, h3, h4, h5, h6, h7⟩
  · cases h1
  · cases h1
    refine .inr ⟨g, cap, cur.setIfInBounds i u, rfl, h2, ?_, h4, h5, by rw [Array.size_setIfInBounds]; exact h6, ?_⟩
    · show (w.heap.modify g _)[g]? = _
      simp [Array.getElem?_modify, h3]
    · rw [Array.toList_setIfInBounds, List.take_set, h7]
theorem TabAt.setSlot {w : World} {B t g n cap : Nat} {T : Tab} {vb vc : Value} (h : TabAt w B t T (.slice (some ⟨g, 0, none⟩) n cap) vb vc) (i c : Nat) (s s' : Sl) (u : Value) (hs : T.sl[i]? = some s) (hc : c < 9) (he : (slCells s).set c u = slCells s') :
    TabAt (w.setCell ⟨g, i * 9 + c, none⟩ u) B t { T with sl := T.sl.set i s' } (.slice (some ⟨g, 0, none⟩) n cap) vb vc := by
  obtain ⟨ao, cp, e, hcp, _, _⟩ := slice_own h.os
  cases e
  have hlab := own_lab h.os g rfl
  have tp : Touch (fun k => k = g) w (w.setCell ⟨g, i * 9 + c, none⟩ u) := Touch.put (S := fun k => k = g) rfl _ _
  have hi := (List.getElem?_eq_some_iff.1 hs).1
  refine ⟨h.box.touch tp (fun e => (h.box.lab.ne hlab (by decide)) e), ?_, own_touch h.ob tp (fun k hk e => ((own_lab h.ob k hk).ne hlab (by decide)) e), own_touch h.oc tp (fun k hk e => ((own_lab h.oc k hk).ne hlab (by decide)) e), fun j d hd => ⟨(h.cs j d hd).1, (h.cs j d hd).2.touch tp (fun e => ((h.cs j d hd).2.lab.ne hlab (by decide)) e)⟩, h.bt⟩
  have := own_putN h.os (i * 9 + c) u
  rw [slFlat_setc T.sl i c s s' u hs hc he] at this
  show World.ownsRow _ B _ 9 _ (T.sl.set i s').length (slFlat (T.sl.set i s'))
  rw [List.length_set]
  exact this
theorem TabAt.setVF {w : World} {B t g n cap : Nat} {T : Tab} {vb vc : Value} (h : TabAt w B t T (.slice (some ⟨g, 0, none⟩) n cap) vb vc) (i : Nat) (s : Sl) (v : Vt) (f : Int) (hs : T.sl[i]? = some s) :
    TabAt ((((w.setCell ⟨g, i * 9 + 3, none⟩ (.int .i64 v.1)).setCell ⟨g, i * 9 + 4, none⟩ (.int .i64 v.2.1)).setCell ⟨g, i * 9 + 5, none⟩ (.string v.2.2)).setCell ⟨g, i * 9 + 6, none⟩ (.int .i64 f)) B t { T with sl := T.sl.set i { s with val := v, fl := f } } (.slice (some ⟨g, 0, none⟩) n cap) vb vc := by
  have hi := (List.getElem?_eq_some_iff.1 hs).1
  have h1 := h.setSlot i 3 s { s with val := (v.1, s.val.2) } (.int .i64 v.1) hs (by omega) rfl
  have h2 := h1.setSlot i 4 _ { s with val := (v.1, v.2.1, s.val.2.2) } (.int .i64 v.2.1) (List.getElem?_set_self hi) (by omega) rfl
  have h3 := h2.setSlot i 5 _ { s with val := v } (.string v.2.2) (List.getElem?_set_self (by rw [List.length_set]; exact hi)) (by omega) rfl
  have h4 := h3.setSlot i 6 _ { s with val := v, fl := f } (.int .i64 f) (List.getElem?_set_self (by rw [List.length_set, List.length_set]; exact hi)) (by omega) rfl
  simp only [List.set_set] at h4
  exact h4
theorem TabAt.setFV {w : World} {B t g n cap : Nat} {T : Tab} {vb vc : Value} (h : TabAt w B t T (.slice (some ⟨g, 0, none⟩) n cap) vb vc) (i : Nat) (s : Sl) (v : Vt) (f : Int) (hs : T.sl[i]? = some s) :
    TabAt ((((w.setCell ⟨g, i * 9 + 6, none⟩ (.int .i64 f)).setCell ⟨g, i * 9 + 3, none⟩ (.int .i64 v.1)).setCell ⟨g, i * 9 + 4, none⟩ (.int .i64 v.2.1)).setCell ⟨g, i * 9 + 5, none⟩ (.string v.2.2)) B t { T with sl := T.sl.set i { s with val := v, fl := f } } (.slice (some ⟨g, 0, none⟩) n cap) vb vc := by
  have hi := (List.getElem?_eq_some_iff.1 hs).1
  have h0 := h.setSlot i 6 s { s with fl := f } (.int .i64 f) hs (by omega) rfl
  have h1 := h0.setSlot i 3 _ { s with val := (v.1, s.val.2), fl := f } (.int .i64 v.1) (List.getElem?_set_self hi) (by omega) rfl
  have h2 := h1.setSlot i 4 _ { s with val := (v.1, v.2.1, s.val.2.2), fl := f } (.int .i64 v.2.1) (List.getElem?_set_self (by rw [List.length_set]; exact hi)) (by omega) rfl
  have h3 := h2.setSlot i 5 _ { s with val := v, fl := f } (.string v.2.2) (List.getElem?_set_self (by rw [List.length_set, List.length_set]; exact hi)) (by omega) rfl
  simp only [List.set_set] at h3
  exact h3
theorem TabAt.setCnt {w : World} {B t : Nat} {T : Tab} {vs vb vc : Value} (h : TabAt w B t T vs vb vc) (c : Nat) : TabAt (w.setCell ⟨t, 2, none⟩ (.int .i64 (c : Int))) B t { T with cnt := c } vs vb vc := by
  have tp : Touch (fun k => k = t) w (w.setCell ⟨t, 2, none⟩ (.int .i64 (c : Int))) := Touch.put (S := fun k => k = t) rfl _ _
  exact ⟨h.box.put 2 _, own_touch h.os tp (fun k hk e => ((own_lab h.os k hk).ne h.box.lab (by decide)) e), own_touch h.ob tp (fun k hk e => ((own_lab h.ob k hk).ne h.box.lab (by decide)) e), own_touch h.oc tp (fun k hk e => ((own_lab h.oc k hk).ne h.box.lab (by decide)) e), fun j d hd => ⟨(h.cs j d hd).1, (h.cs j d hd).2.touch tp (fun e => ((h.cs j d hd).2.lab.ne h.box.lab (by decide)) e)⟩, h.bt⟩
theorem foot_sl {t : Nat} {T : Tab} {vs vb vc : Value} (l : List Sl) (c : Nat) {k : Nat} : Foot t { T with sl := l, cnt := c } vs vb vc k ↔ Foot t T vs vb vc k := Iff.rfl
/-- Midway: there is room, and the key's and the value's boxes stand. -/
structure Mid (B t : Nat) (T : Tab) (F : Nat → Prop) (kb vb : Nat) (kk v : Vt) (T3 : Tab) (w w3 : World) : Prop where
  good : Good T3
  obs : obs T3 = obs T
  cnt : T3.cnt = T.cnt
  cur : T3.cur.length = T.cur.length
  room : T3.sl.length < T3.nb
  kbox : Box w3 kb 30 #[.int .i64 kk.1, .int .i64 kk.2.1, .string kk.2.2]
  vbox : Box w3 vb 30 #[.int .i64 v.1, .int .i64 v.2.1, .string v.2.2]
  post : TabPost B t T3 F w w3
def PutPost (B t : Nat) (T : Tab) (k v : Vt) (f : Int) (F : Nat → Prop) (w w' : World) : Prop := ∃ T', Good T' ∧ obs T' = putO (obs T) (keyT k) v f ∧ T'.cnt ≤ T.cnt + 1 ∧ T'.cur.length = T.cur.length ∧ TabPost B t T' F w w'

set_option maxRecDepth 100000 in
theorem put_nil (k v : Vt) (f : Int) (w : World) : Calls Tryz.prog 75 #[.pointer none, valV k, valV v, .int .i64 f] w fun e w' => e = .returned (.tuple #[]) ∧ Below w.heap.size w w' := by
  have hB : Below w.heap.size w ((w.alloc (.cells #[.int .i64 k.1, .int .i64 k.2.1, .string k.2.2] 30)).alloc (.cells #[.int .i64 v.1, .int .i64 v.2.1, .string v.2.2] 30)) := ((Below.refl _ _).alloc (Nat.le_refl _) _).alloc (by simp) _
  go_enter Tryz.func75, Tryz.ntmps75
  go_wp2
  exact bodyPost_ret (results_none rfl _ _ _) rfl ⟨rfl, hB⟩

set_option maxHeartbeats 4000000 in
set_option maxRecDepth 100000 in
theorem put_any (B t : Nat) (T : Tab) (vs vb vc : Value) (hG : Good T) (hcnt : T.cnt < 40000) (hcur : T.cur.length < 100000) (k v : Vt) (f : Int) (hk : k.2.2.size ≤ 1000) (w : World) (h : TabAt w B t T vs vb vc) :
    Calls Tryz.prog 75 #[.pointer (some ⟨t, 0, none⟩), valV k, valV v, .int .i64 f] w fun e w' => e = .returned (.tuple #[]) ∧ PutPost B t T k v f (Foot t T vs vb vc) w w' := by
  obtain ⟨W, hW⟩ : ∃ W, W = (w.alloc (.cells #[.int .i64 k.1, .int .i64 k.2.1, .string k.2.2] 30)).alloc (.cells #[.int .i64 v.1, .int .i64 v.2.1, .string v.2.2] 30) := ⟨_, rfl⟩
  have hBW : Below w.heap.size w W := by rw [hW]; exact ((Below.refl _ _).alloc (Nat.le_refl _) _).alloc (by simp) _
  have hK : Box W w.heap.size 30 #[.int .i64 k.1, .int .i64 k.2.1, .string k.2.2] := by rw [hW]; exact (Box.new w _ _).more _
  have hV : Box W (w.heap.size + 1) 30 #[.int .i64 v.1, .int .i64 v.2.1, .string v.2.2] := by
    rw [hW]
    have := Box.new (w.alloc (.cells #[.int .i64 k.1, .int .i64 k.2.1, .string k.2.2] 30)) 30 #[.int .i64 v.1, .int .i64 v.2.1, .string v.2.2]
    rwa [World.size_alloc] at this
  have HW := Veil.mk hW
  have HKEY := Veil.mk (fun w => key_any k w)
  have hk2 := keyT_size2 k hk
  obtain ⟨kk, hkk⟩ : ∃ kk, kk = keyT k := ⟨_, rfl⟩
  have HKK := Veil.mk hkk
  rw [← hkk] at HKEY hk2
  have hT := h.on hBW
  have hl1 := hK.lt
  have hl2 := hV.lt
  clear hkk hW
  go_enter Tryz.func75, Tryz.ntmps75
  go_upto_region 2 with (fail)
  rw [← HW.out]
  have x0 : W.cell? ⟨w.heap.size, 0, none⟩ = some (.int .i64 k.1) := hK.at_ 0
  have x1 : W.cell? ⟨w.heap.size, 1, none⟩ = some (.int .i64 k.2.1) := hK.at_ 1
  have x2 : W.cell? ⟨w.heap.size, 2, none⟩ = some (.string k.2.2) := hK.at_ 2
  go_upto_region 3 with (first | (go_at_call 88; ((with_reducible refine (HKEY.out _).mono ?_); rintro e w1 ⟨rfl, hb1⟩; have y0 := (hK.on hb1 hl1).at_ 0; have y1 := (hK.on hb1 hl1).at_ 1; have y2 := (hK.on hb1 hl1).at_ 2; have g0 := (hK.on hb1 hl1).free 0; have g1 := (hK.on hb1 hl1).free 1; have g2 := (hK.on hb1 hl1).free 2)))
  have hbw1 : Below w.heap.size w (((w1.setCell ⟨w.heap.size, 0, none⟩ (.int .i64 kk.1)).setCell ⟨w.heap.size, 1, none⟩ (.int .i64 kk.2.1)).setCell ⟨w.heap.size, 2, none⟩ (.string kk.2.2)) := (((hBW.trans (hb1.mono hBW.size)).setCell (p := ⟨w.heap.size, 0, none⟩) (Nat.le_refl _) _).setCell (p := ⟨w.heap.size, 1, none⟩) (Nat.le_refl _) _).setCell (p := ⟨w.heap.size, 2, none⟩) (Nat.le_refl _) _
  have bk1 : Box (((w1.setCell ⟨w.heap.size, 0, none⟩ (.int .i64 kk.1)).setCell ⟨w.heap.size, 1, none⟩ (.int .i64 kk.2.1)).setCell ⟨w.heap.size, 2, none⟩ (.string kk.2.2)) w.heap.size 30 #[.int .i64 kk.1, .int .i64 kk.2.1, .string kk.2.2] := (((hK.on hb1 hl1).put 0 _).put 1 _).put 2 _
  have bv1 : Box (((w1.setCell ⟨w.heap.size, 0, none⟩ (.int .i64 kk.1)).setCell ⟨w.heap.size, 1, none⟩ (.int .i64 kk.2.1)).setCell ⟨w.heap.size, 2, none⟩ (.string kk.2.2)) (w.heap.size + 1) 30 #[.int .i64 v.1, .int .i64 v.2.1, .string v.2.2] := (hV.on hb1 hl2).touch (S := fun k => k = w.heap.size) (((Touch.put (S := fun k => k = w.heap.size) rfl 0 _).trans (Touch.put (S := fun k => k = w.heap.size) rfl 1 _)).trans (Touch.put (S := fun k => k = w.heap.size) rfl 2 _)) (by simp)
  generalize ((w1.setCell ⟨w.heap.size, 0, none⟩ (.int .i64 kk.1)).setCell ⟨w.heap.size, 1, none⟩ (.int .i64 kk.2.1)).setCell ⟨w.heap.size, 2, none⟩ (.string kk.2.2) = W1 at hbw1 bk1 bv1 ⊢
  have hT1 : TabAt W1 B t T vs vb vc := h.on hbw1
  clear y0 y1 y2 g0 g1 g2 x0 x1 x2 hb1 hBW hK hV hl1 hl2 HW HKEY hT
  clear W w1
  have HF := Veil.mk (find_all B t T vs vb vc hG.inv kk hk2 W1 hT1)
  have x0 : W1.cell? ⟨w.heap.size, 0, none⟩ = some (.int .i64 kk.1) := bk1.at_ 0
  have x1 : W1.cell? ⟨w.heap.size, 1, none⟩ = some (.int .i64 kk.2.1) := bk1.at_ 1
  have x2 : W1.cell? ⟨w.heap.size, 2, none⟩ = some (.string kk.2.2) := bk1.at_ 2
  have HH := Veil.mk h
  clear h
  go_upto_region 4 with (first | (go_at_call 87; ((with_reducible refine HF.out.mono ?_); rintro e w2 ⟨r, rfl, hr, hb2⟩)))
  have hT2 := hT1.on hb2
  have bk2 := bk1.on hb2 bk1.lt
  have bv2 := bv1.on hb2 bv1.lt
  have hbw2 : Below w.heap.size w w2 := hbw1.trans (hb2.mono hbw1.size)
  clear x0 x1 x2 hT1 bk1 bv1 hb2 hbw1 HF
  clear W1
  obtain ⟨sa, cs, rfl, hcs, hgs2, hms⟩ := slice_own hT2.os
  obtain ⟨sb, cb, rfl, hcb, hgb2, hmb⟩ := slice_own hT2.ob
  have c0 : w2.cell? ⟨t, 0, none⟩ = some (.slice sa T.sl.length cs) := hT2.box.at_ 0
  have c1 : w2.cell? ⟨t, 1, none⟩ = some (.slice sb T.nb cb) := hT2.box.at_ 1
  have z0 : w2.cell? ⟨w.heap.size + 1, 0, none⟩ = some (.int .i64 v.1) := bv2.at_ 0
  have z1 : w2.cell? ⟨w.heap.size + 1, 1, none⟩ = some (.int .i64 v.2.1) := bv2.at_ 1
  have z2 : w2.cell? ⟨w.heap.size + 1, 2, none⟩ = some (.string v.2.2) := bv2.at_ 2
  rcases hr with ⟨i, rfl, s, hs, hlv, hkey⟩ | ⟨rfl, hno⟩
  · have hi := (List.getElem?_eq_some_iff.1 hs).1
    obtain ⟨gs, rfl⟩ := hgs2 (by omega)
    obtain ⟨k0, k1, k2, v0, v1, v2, ff, fl, fn⟩ := hT2.slot i s hs
    have i0 : (0 : Int) ≤ (i : Int) := by omega
    have i1 : (i : Int) < (T.sl.length : Int) := by omega
    have f3 := own_free hT2.os (i * 9 + 3)
    have f4 := own_free hT2.os (i * 9 + 4)
    have f5 := own_free hT2.os (i * 9 + 5)
    have f6 := own_free hT2.os (i * 9 + 6)
    have HP : Veil (∀ w3, Touch (fun k => k = gs) w2 w3 → TabAt w3 B t { T with sl := T.sl.set i { s with val := v, fl := f } } (.slice (some ⟨gs, 0, none⟩) T.sl.length cs) (.slice sb T.nb cb) vc → PutPost B t T k v f (Foot t T (.slice (some ⟨gs, 0, none⟩) T.sl.length cs) (.slice sb T.nb cb) vc) w w3.drew) := ⟨fun w3 ht h3 => ⟨_, good_set T hG i s hs hlv v f, by rw [obs_set T hG.inv i s hs hlv v f, hkey, HKK.out], Nat.le_succ _, rfl, TabPost.drew ⟨_, _, _, h3, (Touch.of_below hbw2).trans (ht.mono (fun k hk => .inr (.inl (by rw [hk]; rfl)))), fun k hk => .inl hk⟩⟩⟩
    have HA := Veil.mk (TabAt.setVF hT2 i s v f hs)
    have HB := Veil.mk (TabAt.setFV hT2 i s v f hs)
    have tc : ∀ (W : World) (j : Nat) (u : Value), Touch (fun k => k = gs) W (W.setCell ⟨gs, j, none⟩ u) := fun W j u => Touch.put (S := fun k => k = gs) rfl j u
    have HTC := Veil.mk tc
    have n1 : gs ≠ w.heap.size + 1 := by have := own_lt HH.out.os gs rfl; omega
    have n2 : gs ≠ t := (own_lab hT2.os gs rfl).ne hT2.box.lab (by decide)
    clear tc hT2 bk2 bv2 hs hlv hkey hgs2 hgb2 k0 k1 k2 fl fn hi
    obtain ⟨v0', v1', v2'⟩ := v
    dsimp only at z0 z1 z2 HA HB
    go_wp2
    go_region
    have HD := Veil.mk (HP.out _ ((((HTC.out _ _ _).trans (HTC.out _ _ _)).trans (HTC.out _ _ _)).trans (HTC.out _ _ _)) HA.out)
    clear HP HA HB HTC
    go_wp2
    exact bodyPost_ret (results_none rfl _ _ _) rfl ⟨rfl, HD.out⟩
  · have hrm := hG.slack
    have hcap := hG.inv.cap
    have HRB := Veil.mk (fun n => rebuild_any B t T _ _ vc (by omega) (by omega) hcur hG.cat (fun s hs hl => by
      obtain ⟨i, hi, e⟩ := List.mem_iff_getElem.1 hs
      exact (hG.inv.live i s (by rw [List.getElem?_eq_getElem hi, e]) hl).2.2) (w2.drewN n) (hT2.on (below_drewN (Below.refl _ w2) n)))
    have HT2 := Veil.mk hT2
    have BK := Veil.mk bk2
    have BV := Veil.mk bv2
    have NO : Veil (∀ i, ¬ Found T.sl kk i) := ⟨hno⟩
    clear hT2 bk2 bv2 hno hgs2 hgb2
    have e1 : IntKind.i64.wrap ((T.cnt : Int) + 1) = (T.cnt : Int) + 1 := IntWalk.i64_in _ (by omega)
    by_cases hfull : T.sl.length = T.nb
    · have q : ((T.sl.length : Int) == (T.nb : Int)) = true := by rw [hfull]; simp
      go_upto_region 6 with (fail)
      go_quiet (fail)
      clear c0 c1 z0 z1 z2 q
      go_upto_region 8 with (first | (go_at_call 89; ((with_reducible refine (HRB.out nq).mono ?_); rintro e w3 ⟨rfl, j0, hj01, hj02, hj03, hp3⟩)))
      obtain ⟨T3, hM⟩ : ∃ T3, Mid B t T (Foot t T (.slice sa T.sl.length cs) (.slice sb T.nb cb) vc) w.heap.size (w.heap.size + 1) kk v T3 w w3 := by
        obtain ⟨a1, a2, a3, a4⟩ := re_good hG.inv j0 hj01 hj02 hj03
        obtain ⟨vs', vb', vc', hTk, tk, sk⟩ := hp3
        have hbd := below_drewN (Below.refl w2.heap.size w2) nq
        have hsz : w.heap.size ≤ (w2.drewN nq).heap.size := hbw2.size
        refine ⟨_, a1, obs_re T j0, a3, by unfold reT; rw [(buildT_same _ _ _ _).2.2.1, List.length_map], by rw [a2, a4]; have := Nat.pow_le_pow_right (n := 2) (by omega) hj01; omega, (BK.out.on hbd BK.out.lt).touch tk (fun h => ?_), (BV.out.on hbd BV.out.lt).touch tk (fun h => ?_), vs', vb', vc', hTk, (Touch.of_below (hbw2.trans (hbd.mono hbw2.size))).trans tk, fun k hk => (sk k hk).imp id (fun h => Nat.le_trans hsz h)⟩
        · have := (Foot.lt HH.out h).2; omega
        · have := (Foot.lt HH.out h).2; omega
      clear hp3 HRB HT2 BK BV
      obtain ⟨m1, m2, m3, m4, m5, bk, bv, vs', vb', vc', hT3, tk, sk⟩ := hM
      have d2 : w3.cell? ⟨t, 2, none⟩ = some (.int .i64 (T.cnt : Int)) := by
        have := hT3.box.at_ 2
        rw [m3] at this
        exact this
      have f2 := hT3.box.free 2
      have hS := hT3.setCnt (T.cnt + 1)
      rw [show ((T.cnt + 1 : Nat) : Int) = (T.cnt : Int) + 1 by omega] at hS
      have tp : Touch (fun k => k = t) w3 (w3.setCell ⟨t, 2, none⟩ (.int .i64 ((T.cnt : Int) + 1))) := Touch.put (S := fun k => k = t) rfl _ _
      have bk4 := bk.touch tp (fun e => (bk.lab.ne hT3.box.lab (by decide)) e)
      have bv4 := bv.touch tp (fun e => (bv.lab.ne hT3.box.lab (by decide)) e)
      have sk' : ∀ k, Foot t { T3 with cnt := T.cnt + 1 } vs' vb' vc' k → Foot t T (.slice sa T.sl.length cs) (.slice sb T.nb cb) vc k ∨ w.heap.size ≤ k := fun k hk => sk k hk
      have tk' := tk.comp tp (fun k hk => .inl (.inl hk))
      obtain ⟨j, hj1, hj2, hnj⟩ : ∃ j : Nat, 1 ≤ j ∧ j ≤ 30 ∧ T3.nb = 2 ^ j := by
        rcases m1.inv.nb with h | h
        · omega
        · exact h
      have hadd : Calls Tryz.prog 103 #[.pointer (some ⟨t, 0, none⟩), .agg #[.int .i64 kk.1, .int .i64 kk.2.1, .string kk.2.2, .int .i64 v.1, .int .i64 v.2.1, .string v.2.2, .int .i64 f, .bool true, .int .i64 0]] _ _ := add_any B t { T3 with cnt := T.cnt + 1 } vs' vb' vc' j hj2 hnj m1.inv.hlen (by have := m1.slack; show T3.sl.length < _; omega) ⟨kk, v, f, true, 0⟩ hk2 _ hS
      have hnoT : ∀ i, ¬ Found T3.sl kk i := fun i hi => by
        obtain ⟨a, ha⟩ := (hasK_found T kk).1 (by rw [← m2]; exact (hasK_found T3 kk).2 ⟨i, hi⟩)
        exact NO.out a ha
      have HP : Veil (∀ w5, TabPost B t (addT { T3 with cnt := T.cnt + 1 } ⟨kk, v, f, true, 0⟩) (Foot t { T3 with cnt := T.cnt + 1 } vs' vb' vc') (w3.setCell ⟨t, 2, none⟩ (.int .i64 ((T.cnt : Int) + 1))) w5 → PutPost B t T k v f (Foot t T (.slice sa T.sl.length cs) (.slice sb T.nb cb) vc) w w5) := ⟨fun w5 h5 => by
        have g := good_add T3 m1 ⟨kk, v, f, true, 0⟩ rfl m5 (by rw [HKK.out]; exact keyT_twice k) hk2 hnoT
        have o := obs_add T3 m1.cat ⟨kk, v, f, true, 0⟩ rfl (T3.cnt + 1) hnoT
        rw [m2, m3, HKK.out] at o
        rw [m3, HKK.out] at g
        rw [HKK.out] at h5
        exact ⟨_, g, o, Nat.le_refl _, m4, TabPost.step hS tk' sk' h5⟩⟩
      have HADD := Veil.mk hadd
      have BK := Veil.mk bk4
      have BV := Veil.mk bv4
      clear hadd bk4 bv4 m1 m2 m3 m4 m5 bk bv hT3 tk sk hS tp sk' tk' hnoT hnj hj1 hj2
      go_upto_region 9 with (fail)
      generalize w3.setCell ⟨t, 2, none⟩ (.int .i64 ((T.cnt : Int) + 1)) = w4 at HP HADD BK BV ⊢
      have x0 : w4.cell? ⟨w.heap.size, 0, none⟩ = some (.int .i64 kk.1) := BK.out.at_ 0
      have x1 : w4.cell? ⟨w.heap.size, 1, none⟩ = some (.int .i64 kk.2.1) := BK.out.at_ 1
      have x2 : w4.cell? ⟨w.heap.size, 2, none⟩ = some (.string kk.2.2) := BK.out.at_ 2
      have y0 : w4.cell? ⟨w.heap.size + 1, 0, none⟩ = some (.int .i64 v.1) := BV.out.at_ 0
      have y1 : w4.cell? ⟨w.heap.size + 1, 1, none⟩ = some (.int .i64 v.2.1) := BV.out.at_ 1
      have y2 : w4.cell? ⟨w.heap.size + 1, 2, none⟩ = some (.string v.2.2) := BV.out.at_ 2
      clear d2 f2
      go_wp2_with (first | (go_at_call 103; ((with_reducible refine HADD.out.mono ?_); rintro e w5 ⟨rfl, h5⟩)))
      have HD := Veil.mk (HP.out _ h5)
      go_end0
      exact ⟨rfl, HD.out⟩
    · have q : ((T.sl.length : Int) == (T.nb : Int)) = false := beq_eq_false_iff_ne.2 (by omega)
      go_upto_region 6 with (fail)
      go_quiet (fail)
      clear c0 c1 z0 z1 z2 q
      have hbd := below_drewN (Below.refl w2.heap.size w2) nq
      have hM' : Mid B t T (Foot t T (.slice sa T.sl.length cs) (.slice sb T.nb cb) vc) w.heap.size (w.heap.size + 1) kk v T w (w2.drewN nq) := ⟨hG, rfl, rfl, rfl, by omega, BK.out.on hbd BK.out.lt, BV.out.on hbd BV.out.lt, _, _, _, HT2.out.on hbd, Touch.of_below (hbw2.trans (hbd.mono hbw2.size)), fun k hk => .inl hk⟩
      obtain ⟨T3, hM⟩ : ∃ T3, Mid B t T (Foot t T (.slice sa T.sl.length cs) (.slice sb T.nb cb) vc) w.heap.size (w.heap.size + 1) kk v T3 w (w2.drewN nq) := ⟨T, hM'⟩
      clear HRB HT2 BK BV hM'
      go_upto_region 8 with (fail)
      generalize w2.drewN nq = w3 at hM ⊢
      obtain ⟨m1, m2, m3, m4, m5, bk, bv, vs', vb', vc', hT3, tk, sk⟩ := hM
      have d2 : w3.cell? ⟨t, 2, none⟩ = some (.int .i64 (T.cnt : Int)) := by
        have := hT3.box.at_ 2
        rw [m3] at this
        exact this
      have f2 := hT3.box.free 2
      have hS := hT3.setCnt (T.cnt + 1)
      rw [show ((T.cnt + 1 : Nat) : Int) = (T.cnt : Int) + 1 by omega] at hS
      have tp : Touch (fun k => k = t) w3 (w3.setCell ⟨t, 2, none⟩ (.int .i64 ((T.cnt : Int) + 1))) := Touch.put (S := fun k => k = t) rfl _ _
      have bk4 := bk.touch tp (fun e => (bk.lab.ne hT3.box.lab (by decide)) e)
      have bv4 := bv.touch tp (fun e => (bv.lab.ne hT3.box.lab (by decide)) e)
      have sk' : ∀ k, Foot t { T3 with cnt := T.cnt + 1 } vs' vb' vc' k → Foot t T (.slice sa T.sl.length cs) (.slice sb T.nb cb) vc k ∨ w.heap.size ≤ k := fun k hk => sk k hk
      have tk' := tk.comp tp (fun k hk => .inl (.inl hk))
      obtain ⟨j, hj1, hj2, hnj⟩ : ∃ j : Nat, 1 ≤ j ∧ j ≤ 30 ∧ T3.nb = 2 ^ j := by
        rcases m1.inv.nb with h | h
        · omega
        · exact h
      have hadd : Calls Tryz.prog 103 #[.pointer (some ⟨t, 0, none⟩), .agg #[.int .i64 kk.1, .int .i64 kk.2.1, .string kk.2.2, .int .i64 v.1, .int .i64 v.2.1, .string v.2.2, .int .i64 f, .bool true, .int .i64 0]] _ _ := add_any B t { T3 with cnt := T.cnt + 1 } vs' vb' vc' j hj2 hnj m1.inv.hlen (by have := m1.slack; show T3.sl.length < _; omega) ⟨kk, v, f, true, 0⟩ hk2 _ hS
      have hnoT : ∀ i, ¬ Found T3.sl kk i := fun i hi => by
        obtain ⟨a, ha⟩ := (hasK_found T kk).1 (by rw [← m2]; exact (hasK_found T3 kk).2 ⟨i, hi⟩)
        exact NO.out a ha
      have HP : Veil (∀ w5, TabPost B t (addT { T3 with cnt := T.cnt + 1 } ⟨kk, v, f, true, 0⟩) (Foot t { T3 with cnt := T.cnt + 1 } vs' vb' vc') (w3.setCell ⟨t, 2, none⟩ (.int .i64 ((T.cnt : Int) + 1))) w5 → PutPost B t T k v f (Foot t T (.slice sa T.sl.length cs) (.slice sb T.nb cb) vc) w w5) := ⟨fun w5 h5 => by
        have g := good_add T3 m1 ⟨kk, v, f, true, 0⟩ rfl m5 (by rw [HKK.out]; exact keyT_twice k) hk2 hnoT
        have o := obs_add T3 m1.cat ⟨kk, v, f, true, 0⟩ rfl (T3.cnt + 1) hnoT
        rw [m2, m3, HKK.out] at o
        rw [m3, HKK.out] at g
        rw [HKK.out] at h5
        exact ⟨_, g, o, Nat.le_refl _, m4, TabPost.step hS tk' sk' h5⟩⟩
      have HADD := Veil.mk hadd
      have BK := Veil.mk bk4
      have BV := Veil.mk bv4
      clear hadd bk4 bv4 m1 m2 m3 m4 m5 bk bv hT3 tk sk hS tp sk' tk' hnoT hnj hj1 hj2
      go_upto_region 9 with (fail)
      generalize w3.setCell ⟨t, 2, none⟩ (.int .i64 ((T.cnt : Int) + 1)) = w4 at HP HADD BK BV ⊢
      have x0 : w4.cell? ⟨w.heap.size, 0, none⟩ = some (.int .i64 kk.1) := BK.out.at_ 0
      have x1 : w4.cell? ⟨w.heap.size, 1, none⟩ = some (.int .i64 kk.2.1) := BK.out.at_ 1
      have x2 : w4.cell? ⟨w.heap.size, 2, none⟩ = some (.string kk.2.2) := BK.out.at_ 2
      have y0 : w4.cell? ⟨w.heap.size + 1, 0, none⟩ = some (.int .i64 v.1) := BV.out.at_ 0
      have y1 : w4.cell? ⟨w.heap.size + 1, 1, none⟩ = some (.int .i64 v.2.1) := BV.out.at_ 1
      have y2 : w4.cell? ⟨w.heap.size + 1, 2, none⟩ = some (.string v.2.2) := BV.out.at_ 2
      clear d2 f2
      go_wp2_with (first | (go_at_call 103; ((with_reducible refine HADD.out.mono ?_); rintro e w5 ⟨rfl, h5⟩)))
      have HD := Veil.mk (HP.out _ h5)
      go_end0
      exact ⟨rfl, HD.out⟩
end Go.Proofs.YtgdkjkfbknbgkaaGreatDoor
