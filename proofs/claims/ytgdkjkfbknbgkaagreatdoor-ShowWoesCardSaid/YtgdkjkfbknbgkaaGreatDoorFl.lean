/- Tables: Delete. -/
import Derived.Test.YtgdkjkfbknbgkaaGreatDoorFk
namespace Go.Proofs.YtgdkjkfbknbgkaaGreatDoor
open Go.RowKit

def deadS (n : Nat) : Sl := ⟨(0, 0, ⟨#[]⟩), (0, 0, ⟨#[]⟩), 0, false, n⟩
def delT (T : Tab) (i n : Nat) : Tab := { T with sl := T.sl.set i (deadS n), cnt := T.cnt - 1 }
theorem cntL_dead (d : Sl) (hd : d.live = false) : ∀ (l : List Sl) (i : Nat) (s : Sl), l[i]? = some s → s.live = true → cntL (l.set i d) + 1 = cntL l
  | [], i, s, h, _ => by simp at h
  | x :: l, 0, s, h, hl => by
    simp at h; subst h
    show cntL (d :: l) + 1 = cntL (x :: l)
    unfold cntL
    rw [List.filter_cons_of_neg (by simp [hd]), List.filter_cons_of_pos hl]; rfl
  | x :: l, i + 1, s, h, hl => by
    have ih := cntL_dead d hd l i s (by simpa using h) hl
    show cntL (x :: l.set i d) + 1 = cntL (x :: l)
    unfold cntL at ih ⊢
    cases hx : x.live
    · rw [List.filter_cons_of_neg (by simp [hx]), List.filter_cons_of_neg (by simp [hx])]; exact ih
    · rw [List.filter_cons_of_pos hx, List.filter_cons_of_pos hx, List.length_cons, List.length_cons, ih]
theorem del_inv (T : Tab) (h : Good T) (i : Nat) (s : Sl) (hs : T.sl[i]? = some s) (hl : s.live = true) : Inv (delT T i s.next) ∧ (delT T i s.next).sl.length = T.sl.length ∧ (∀ c ∈ (delT T i s.next).cur, c.2 ≤ (delT T i s.next).sl.length) ∧ obs (delT T i s.next) = delO (obs T) s.key ∧ 0 < T.cnt := by
  have hp := h.inv.pre.set i s (deadS s.next) (T.cnt - 1) hs rfl (fun hd => by cases hd)
  have hlen : (delT T i s.next).sl.length = T.sl.length := by show (T.sl.set i _).length = _; rw [List.length_set]
  have hc := cntL_dead (deadS s.next) rfl T.sl i s hs hl
  have hc0 : T.cnt = cntL T.sl := h.inv.cnt
  refine ⟨hp.inv (by show (T.sl.set i _).length ≤ T.nb; rw [List.length_set]; exact h.inv.cap) ?_, hlen, fun c hc => by rw [hlen]; exact h.cat c hc, obs_del T h.inv i s _ _ hs hl rfl, by omega⟩
  show T.cnt - 1 = cntL (T.sl.set i (deadS s.next))
  omega
theorem TabAt.setDead {w : World} {B t g n cap : Nat} {T : Tab} {vb vc : Value} (h : TabAt w B t T (.slice (some ⟨g, 0, none⟩) n cap) vb vc) (i : Nat) (s : Sl) (hs : T.sl[i]? = some s) :
    TabAt (((((((((w.setCell ⟨g, i * 9, none⟩ (.int .i64 0)).setCell ⟨g, i * 9 + 1, none⟩ (.int .i64 0)).setCell ⟨g, i * 9 + 2, none⟩ (.string ⟨#[]⟩)).setCell ⟨g, i * 9 + 3, none⟩ (.int .i64 0)).setCell ⟨g, i * 9 + 4, none⟩ (.int .i64 0)).setCell ⟨g, i * 9 + 5, none⟩ (.string ⟨#[]⟩)).setCell ⟨g, i * 9 + 6, none⟩ (.int .i64 0)).setCell ⟨g, i * 9 + 7, none⟩ (.bool false)).setCell ⟨g, i * 9 + 8, none⟩ (.int .i64 (s.next : Int))) B t { T with sl := T.sl.set i (deadS s.next) } (.slice (some ⟨g, 0, none⟩) n cap) vb vc := by
  have hi := (List.getElem?_eq_some_iff.1 hs).1
  have hin : ∀ d : Sl, i < (T.sl.set i d).length := fun d => by rw [List.length_set]; exact hi
  have h0 := h.setSlot i 0 s ⟨(0, s.key.2), s.val, s.fl, s.live, s.next⟩ (.int .i64 0) hs (by omega) rfl
  have h1 := h0.setSlot i 1 _ ⟨(0, 0, s.key.2.2), s.val, s.fl, s.live, s.next⟩ (.int .i64 0) (List.getElem?_set_self hi) (by omega) rfl
  simp only [List.set_set] at h1
  have h2 := h1.setSlot i 2 _ ⟨(0, 0, ⟨#[]⟩), s.val, s.fl, s.live, s.next⟩ (.string ⟨#[]⟩) (List.getElem?_set_self hi) (by omega) rfl
  simp only [List.set_set] at h2
  have h3 := h2.setSlot i 3 _ ⟨(0, 0, ⟨#[]⟩), (0, s.val.2), s.fl, s.live, s.next⟩ (.int .i64 0) (List.getElem?_set_self hi) (by omega) rfl
  simp only [List.set_set] at h3
  have h4 := h3.setSlot i 4 _ ⟨(0, 0, ⟨#[]⟩), (0, 0, s.val.2.2), s.fl, s.live, s.next⟩ (.int .i64 0) (List.getElem?_set_self hi) (by omega) rfl
  simp only [List.set_set] at h4
  have h5 := h4.setSlot i 5 _ ⟨(0, 0, ⟨#[]⟩), (0, 0, ⟨#[]⟩), s.fl, s.live, s.next⟩ (.string ⟨#[]⟩) (List.getElem?_set_self hi) (by omega) rfl
  simp only [List.set_set] at h5
  have h6 := h5.setSlot i 6 _ ⟨(0, 0, ⟨#[]⟩), (0, 0, ⟨#[]⟩), 0, s.live, s.next⟩ (.int .i64 0) (List.getElem?_set_self hi) (by omega) rfl
  simp only [List.set_set] at h6
  have h7 := h6.setSlot i 7 _ ⟨(0, 0, ⟨#[]⟩), (0, 0, ⟨#[]⟩), 0, false, s.next⟩ (.bool false) (List.getElem?_set_self hi) (by omega) rfl
  simp only [List.set_set] at h7
  have h8 := h7.setSlot i 8 _ (deadS s.next) (.int .i64 (s.next : Int)) (List.getElem?_set_self hi) (by omega) rfl
  simp only [List.set_set] at h8
  exact h8
def DelPost (B t : Nat) (T : Tab) (k : Vt) (F : Nat → Prop) (w : World) (e : Ending) (w' : World) : Prop := ∃ r : Bool, e = .returned (.bool r) ∧ (r = true ↔ hasK (obs T).1 (keyT k)) ∧ ∃ T', Good T' ∧ obs T' = delO (obs T) (keyT k) ∧ T'.cnt ≤ T.cnt ∧ T'.cur.length = T.cur.length ∧ TabPost B t T' F w w'
theorem delO_none (T : Tab) (k : Vt) (h : ¬ hasK (obs T).1 k) : delO (obs T) k = obs T := by
  have e : ∀ l : List Sl, (∀ s ∈ l, s ∈ T.sl) → dropK k (ents l) = ents l := fun l hl => by
    unfold dropK
    rw [List.filter_eq_self]
    intro x hx
    obtain ⟨s, hs, rfl⟩ := List.mem_map.1 hx
    have hs' := List.mem_filter.1 hs
    refine decide_eq_true (fun he => h ⟨ent s, List.mem_map.2 ⟨s, List.mem_filter.2 ⟨hl s hs'.1, hs'.2⟩, rfl⟩, he⟩)
  unfold delO obs
  show (dropK k (ents T.sl), _) = _
  rw [e _ (fun s hs => hs), List.map_map]
  congr 1
  apply List.map_congr_left
  intro c _
  show (c.1, dropK k (ents (T.sl.drop c.2))) = _
  rw [e _ (fun s hs => List.mem_of_mem_drop hs)]

set_option maxHeartbeats 4000000 in
set_option maxRecDepth 100000 in
theorem del_any (B t : Nat) (T : Tab) (vs vb vc : Value) (hG : Good T) (hcnt : T.cnt < 40000) (hcur : T.cur.length < 100000) (k : Vt) (hk : k.2.2.size ≤ 1000) (w : World) (h : TabAt w B t T vs vb vc) :
    Calls Tryz.prog 51 #[.pointer (some ⟨t, 0, none⟩), valV k] w (DelPost B t T k (Foot t T vs vb vc) w) := by
  obtain ⟨W, hW⟩ : ∃ W, W = w.alloc (.cells #[.int .i64 k.1, .int .i64 k.2.1, .string k.2.2] 30) := ⟨_, rfl⟩
  have hBW : Below w.heap.size w W := by rw [hW]; exact (Below.refl _ _).alloc (Nat.le_refl _) _
  have hK : Box W w.heap.size 30 #[.int .i64 k.1, .int .i64 k.2.1, .string k.2.2] := by rw [hW]; exact Box.new w _ _
  have HW := Veil.mk hW
  have hk2 := keyT_size2 k hk
  obtain ⟨kk, hkk⟩ : ∃ kk, kk = keyT k := ⟨_, rfl⟩
  have HKK := Veil.mk hkk
  have HKEY := Veil.mk (fun w => key_any k w)
  rw [← hkk] at HKEY hk2
  have hT := h.on hBW
  have HF := Veil.mk (fun w1 (hb : Below W.heap.size W w1) => find_all B t T vs vb vc hG.inv kk hk2 w1 (hT.on hb))
  have x0 : W.cell? ⟨w.heap.size, 0, none⟩ = some (.int .i64 k.1) := hK.at_ 0
  have x1 : W.cell? ⟨w.heap.size, 1, none⟩ = some (.int .i64 k.2.1) := hK.at_ 1
  have x2 : W.cell? ⟨w.heap.size, 2, none⟩ = some (.string k.2.2) := hK.at_ 2
  have HT := Veil.mk hT
  have HH := Veil.mk h
  clear hkk hW hK hT h
  go_enter Tryz.func51, Tryz.ntmps51
  go_upto_region 1 with (fail)
  rw [← HW.out]
  go_upto_region 2 with (first | (go_at_call 88; ((with_reducible refine (HKEY.out _).mono ?_); rintro e w1 ⟨rfl, hb1⟩)) | (go_at_call 87; ((with_reducible refine (HF.out _ hb1).mono ?_); rintro e w2 ⟨r, rfl, hr, hb2⟩)))
  have hbw2 : Below w.heap.size w w2 := blw2 hBW (blw2 hb1 hb2)
  have hT2 := HT.out.on (blw2 hb1 hb2)
  clear x0 x1 x2 hb1 hb2 hBW HW HKEY HF HT
  clear W w1
  obtain ⟨sa, cs, rfl, hcs, hgs2, hms⟩ := slice_own hT2.os
  have c0 : w2.cell? ⟨t, 0, none⟩ = some (.slice sa T.sl.length cs) := hT2.box.at_ 0
  rcases hr with ⟨i, rfl, s, hs, hlv, hkey⟩ | ⟨rfl, hno⟩
  · have hi := (List.getElem?_eq_some_iff.1 hs).1
    obtain ⟨gs, rfl⟩ := hgs2 (by omega)
    obtain ⟨k0, k1, k2, v0, v1, v2, ff, fl, fn⟩ := hT2.slot i s hs
    have i0 : ¬ (i : Int) < 0 := by omega
    have i01 : (0 : Int) ≤ (i : Int) := by omega
    have i1 : (i : Int) < (T.sl.length : Int) := by omega
    have f0 : w2.frozen? ⟨gs, i * 9, none⟩ = false := own_free hT2.os (i * 9)
    have f1 := own_free hT2.os (i * 9 + 1)
    have f2 := own_free hT2.os (i * 9 + 2)
    have f3 := own_free hT2.os (i * 9 + 3)
    have f4 := own_free hT2.os (i * 9 + 4)
    have f5 := own_free hT2.os (i * 9 + 5)
    have f6 := own_free hT2.os (i * 9 + 6)
    have f7 := own_free hT2.os (i * 9 + 7)
    have f8 := own_free hT2.os (i * 9 + 8)
    have HT2 := Veil.mk hT2
    have HS := Veil.mk (And.intro hs (And.intro hlv hkey))
    clear hT2 hs hlv hkey hgs2
    have HD := Veil.mk (TabAt.setDead HT2.out i s HS.out.1)
    have tc : ∀ (W : World) (j : Nat) (u : Value), Touch (fun k => k = gs) W (W.setCell ⟨gs, j, none⟩ u) := fun W j u => Touch.put (S := fun k => k = gs) rfl j u
    have HTC := Veil.mk ((((((((((tc w2 (i * 9) (.int .i64 0)).trans (tc _ (i * 9 + 1) (.int .i64 0))).trans (tc _ (i * 9 + 2) (.string ⟨#[]⟩))).trans (tc _ (i * 9 + 3) (.int .i64 0))).trans (tc _ (i * 9 + 4) (.int .i64 0))).trans (tc _ (i * 9 + 5) (.string ⟨#[]⟩))).trans (tc _ (i * 9 + 6) (.int .i64 0))).trans (tc _ (i * 9 + 7) (.bool false))).trans (tc _ (i * 9 + 8) (.int .i64 (s.next : Int)))))
    clear tc
    go_upto_region 4 with (fail)
    go_region
    generalize ((((((((w2.setCell ⟨gs, i * 9, none⟩ (.int .i64 0)).setCell ⟨gs, i * 9 + 1, none⟩ (.int .i64 0)).setCell ⟨gs, i * 9 + 2, none⟩ (.string ⟨#[]⟩)).setCell ⟨gs, i * 9 + 3, none⟩ (.int .i64 0)).setCell ⟨gs, i * 9 + 4, none⟩ (.int .i64 0)).setCell ⟨gs, i * 9 + 5, none⟩ (.string ⟨#[]⟩)).setCell ⟨gs, i * 9 + 6, none⟩ (.int .i64 0)).setCell ⟨gs, i * 9 + 7, none⟩ (.bool false)).setCell ⟨gs, i * 9 + 8, none⟩ (.int .i64 (s.next : Int)) = W3 at HD HTC ⊢
    have hT3 : TabAt W3.drew B t { T with sl := T.sl.set i (deadS s.next) } (.slice (some ⟨gs, 0, none⟩) T.sl.length cs) vb vc := HD.out.on ((Below.refl _ W3).drew)
    have ht3 : Touch (fun k => k = gs) w2 W3.drew := HTC.out.trans (Touch.of_below ((Below.refl _ W3).drew))
    generalize W3.drew = w3 at hT3 ht3 ⊢
    clear HD HTC c0 k0 k1 k2 v0 v1 v2 ff fl fn f0 f1 f2 f3 f4 f5 f6 f7 f8
    clear W3
    obtain ⟨hI, hlen, hat, hobs, hpos⟩ := del_inv T hG i s HS.out.1 HS.out.2.1
    have hS := hT3.setCnt (T.cnt - 1)
    rw [show ((T.cnt - 1 : Nat) : Int) = (T.cnt : Int) - 1 by omega] at hS
    have d2 : w3.cell? ⟨t, 2, none⟩ = some (.int .i64 (T.cnt : Int)) := hT3.box.at_ 2
    have d2f := hT3.box.free 2
    have tp : Touch (fun k => k = t) w3 (w3.setCell ⟨t, 2, none⟩ (.int .i64 ((T.cnt : Int) - 1))) := Touch.put (S := fun k => k = t) rfl _ _
    have htt : Touch (Foot t T (.slice (some ⟨gs, 0, none⟩) T.sl.length cs) vb vc) w (w3.setCell ⟨t, 2, none⟩ (.int .i64 ((T.cnt : Int) - 1))) := (Touch.of_below hbw2).trans ((ht3.mono (fun k hk => .inr (.inl (by rw [hk]; rfl)))).trans (tp.mono (fun k hk => .inl hk)))
    have hsl := hG.slack
    have hcap := hG.inv.cap
    have e1 : IntKind.i64.wrap ((T.cnt : Int) - 1) = (T.cnt : Int) - 1 := IntWalk.i64_in _ (by omega)
    have e2 : IntKind.i64.wrap (2 * ((T.cnt : Int) - 1)) = 2 * ((T.cnt : Int) - 1) := IntWalk.i64_in _ (by omega)
    have e3 : IntKind.i64.wrap (2 * ((T.cnt : Int) - 1) + 8) = 2 * ((T.cnt : Int) - 1) + 8 := IntWalk.i64_in _ (by omega)
    have HS3 := Veil.mk hS
    have HTT := Veil.mk htt
    have HI := Veil.mk hI
    have HAT := Veil.mk hat
    have HOBS := Veil.mk hobs
    clear hT3 ht3 hS tp htt hI hat hobs
    go_upto_region 6 with (fail)
    generalize w3.setCell ⟨t, 2, none⟩ (.int .i64 ((T.cnt : Int) - 1)) = w4 at HS3 HTT ⊢
    clear d2 d2f
    have hT4 : TabAt w4 B t (delT T i s.next) (.slice (some ⟨gs, 0, none⟩) T.sl.length cs) vb vc := HS3.out
    have c0 : w4.cell? ⟨t, 0, none⟩ = some (.slice (some ⟨gs, 0, none⟩) T.sl.length cs) := hT4.box.at_ 0
    have c2 : w4.cell? ⟨t, 2, none⟩ = some (.int .i64 ((T.cnt : Int) - 1)) := HS3.out.box.at_ 2 |>.trans (by show some (Value.int .i64 ((T.cnt - 1 : Nat) : Int)) = _; rw [show ((T.cnt - 1 : Nat) : Int) = (T.cnt : Int) - 1 by omega])
    have HT4 := Veil.mk hT4
    clear HS3 hT4
    by_cases hbig : T.sl.length > 2 * (T.cnt - 1) + 8
    · have q : (T.sl.length : Int) > 2 * ((T.cnt : Int) - 1) + 8 := by omega
      have q' : 2 * ((T.cnt : Int) - 1) + 8 < (T.sl.length : Int) := by omega
      go_quiet (fail)
      have HRB := Veil.mk (rebuild_any B t (delT T i s.next) _ _ vc (by rw [hlen]; omega) (by show T.cnt - 1 < _; omega) hcur HAT.out (fun s hs hl => by
        obtain ⟨i, hi, e⟩ := List.mem_iff_getElem.1 hs
        exact (HI.out.live i s (by rw [List.getElem?_eq_getElem hi, e]) hl).2.2) (w4.drewN nq) (HT4.out.on (below_drewN (Below.refl _ w4) nq)))
      go_wp2_with (first | (go_at_call 89; ((with_reducible refine HRB.out.mono ?_); rintro e w5 ⟨rfl, j0, hj01, hj02, hj03, hp3⟩)))
      have hD : DelPost B t T k (Foot t T (.slice (some ⟨gs, 0, none⟩) T.sl.length cs) vb vc) w (.returned (.bool true)) w5 := by
        obtain ⟨a1, a2, a3, a4⟩ := re_good HI.out j0 hj01 hj02 hj03
        refine ⟨true, rfl, ⟨fun _ => by rw [← HKK.out]; exact (hasK_found T kk).2 ⟨i, s, HS.out.1, HS.out.2.1, HS.out.2.2⟩, fun _ => rfl⟩, _, a1, by rw [obs_re, HOBS.out, HS.out.2.2, HKK.out], by rw [a3]; show T.cnt - 1 ≤ _; omega, by unfold reT; rw [(buildT_same _ _ _ _).2.2.1, List.length_map]; rfl, TabPost.step HT4.out HTT.out (fun k hk => .inl hk) (TabPost.before hp3 (below_drewN (Below.refl _ w4) nq))⟩
      have HD := Veil.mk hD
      clear hD hp3
      go_ret
      exact HD.out
    · have q : ¬ (T.sl.length : Int) > 2 * ((T.cnt : Int) - 1) + 8 := by omega
      have q' : ¬ 2 * ((T.cnt : Int) - 1) + 8 < (T.sl.length : Int) := by omega
      go_quiet (fail)
      have hD : DelPost B t T k (Foot t T (.slice (some ⟨gs, 0, none⟩) T.sl.length cs) vb vc) w (.returned (.bool true)) (w4.drewN nq) := by
        have hbd := below_drewN (Below.refl w4.heap.size w4) nq
        exact ⟨true, rfl, ⟨fun _ => by rw [← HKK.out]; exact (hasK_found T kk).2 ⟨i, s, HS.out.1, HS.out.2.1, HS.out.2.2⟩, fun _ => rfl⟩, _, ⟨HI.out, by rw [hlen]; show _ ≤ 2 * (T.cnt - 1) + 8; omega, HAT.out⟩, by rw [HOBS.out, HS.out.2.2, HKK.out], Nat.sub_le _ _, rfl, _, _, _, HT4.out.on hbd, HTT.out.trans (Touch.of_below hbd), fun k hk => .inl hk⟩
      have HD := Veil.mk hD
      clear hD
      go_wp2
      go_ret
      exact HD.out
  · have HD : Veil (DelPost B t T k (Foot t T (.slice sa T.sl.length cs) vb vc) w (.returned (.bool false)) w2) := ⟨by
      have hno' : ¬ hasK (obs T).1 (keyT k) := fun h => by
        obtain ⟨a, ha⟩ := (hasK_found T (keyT k)).1 h
        rw [← HKK.out] at ha
        exact hno a ha
      exact ⟨false, rfl, ⟨fun h => (by cases h), fun h => absurd h hno'⟩, T, hG, (delO_none T _ hno').symm, Nat.le_refl _, rfl, _, _, _, hT2, Touch.of_below hbw2, fun k hk => .inl hk⟩⟩
    clear hno hT2
    go_wp2
    go_ret
    exact HD.out
end Go.Proofs.YtgdkjkfbknbgkaaGreatDoor
