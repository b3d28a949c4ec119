/- Tables: Close of an open cursor. -/
import Derived.Test.YtbeapojjbgkalaaDoorFr
namespace Go.Proofs.YtbeapojjbgkalaaDoor
open Go.RowKit

/-- Cursor i is closed: the last one, z, takes its place. -/
def clT (T : Tab) (i : Nat) (z : Nat × Nat) : Tab := { T with cur := (T.cur.set i z).take (T.cur.length - 1) }
theorem curC_cl (T : Tab) (i m : Nat) (z : Nat × Nat) (v : Value) (hm : m + 1 = T.cur.length) : (((curC T.cur).set i (.pointer (some ⟨z.1, 0, none⟩))).set m v).take m = curC (clT T i z).cur := by
  unfold curC clT
  rw [show T.cur.length - 1 = m by omega]
  show _ = List.map _ ((T.cur.set i z).take m)
  rw [List.map_take, List.map_set]
  apply List.ext_getElem?
  intro j
  rw [List.getElem?_take, List.getElem?_take]
  split
  · rw [List.getElem?_set_ne (by omega)]
  · rfl
theorem cl_get {T : Tab} {i j m : Nat} {z x : Nat × Nat} (hm : m + 1 = T.cur.length) (h : (clT T i z).cur[j]? = some x) : j < m ∧ ((j = i ∧ x = z) ∨ (j ≠ i ∧ T.cur[j]? = some x)) := by
  unfold clT at h
  rw [show T.cur.length - 1 = m by omega] at h
  have h' : ((T.cur.set i z).take m)[j]? = some x := h
  rw [List.getElem?_take] at h'
  split at h'
  · refine ⟨by assumption, ?_⟩
    by_cases e : i = j
    · subst e
      rw [List.getElem?_set_self (by omega)] at h'
      cases h'
      exact .inl ⟨rfl, rfl⟩
    · rw [List.getElem?_set_ne e] at h'
      exact .inr ⟨fun e2 => e e2.symm, h'⟩
  · cases h'
theorem cs_ne {w : World} {B t : Nat} {T : Tab} {vs vb vc : Value} (h : TabAt w B t T vs vb vc) {i j : Nat} {x y : Nat × Nat} (hx : T.cur[i]? = some x) (hy : T.cur[j]? = some y) (hij : i ≠ j) : x.1 ≠ y.1 := fun e => by
  have h1 := (h.cs i x hx).2
  have h2 := (h.cs j y hy).2
  rw [e] at h1
  have := (show w.heap[y.1]? = _ from h1).symm.trans h2
  simp at this
  omega

set_option maxHeartbeats 4000000 in
set_option maxRecDepth 100000 in
theorem close_any (B t : Nat) (T : Tab) (vs vb vc : Value) (hcur : T.cur.length < 100000) (i c a : Nat) (hc : T.cur[i]? = some (c, a)) (w : World) (h : TabAt w B t T vs vb vc) :
    Calls Tryd.prog 65 #[.pointer (some ⟨c, 0, none⟩)] w fun e w' => e = .returned (.tuple #[]) ∧ ∃ z, T.cur[T.cur.length - 1]? = some z ∧ TabPost B t (clT T i z) (Foot t T vs vb vc) w w' ∧ Box w' c 133 #[.pointer none, .int .i64 (a : Int), .int .i64 (i : Int)] := by
  have hi := (List.getElem?_eq_some_iff.1 hc).1
  obtain ⟨cc, cl, rfl, hcl, hgc, hmc⟩ := slice_own h.oc
  obtain ⟨gc, rfl⟩ := hgc (by omega)
  obtain ⟨m, hm⟩ : ∃ m, m + 1 = T.cur.length := ⟨T.cur.length - 1, by omega⟩
  have hz : T.cur[m]? = some T.cur[m] := List.getElem?_eq_getElem (by omega)
  obtain ⟨⟨d, b⟩, hzz⟩ : ∃ z, T.cur[m] = z := ⟨_, rfl⟩
  rw [hzz] at hz
  clear hzz
  have HO := Veil.mk (open_any c t (.int .i64 (a : Int)) (.int .i64 (i : Int)) w (h.cs i (c, a) hc).2)
  have hbc : Box w c 133 #[.pointer (some ⟨t, 0, none⟩), .int .i64 (a : Int), .int .i64 (i : Int)] := (h.cs i (c, a) hc).2
  have hbd : Box w d 133 #[.pointer (some ⟨t, 0, none⟩), .int .i64 (b : Int), .int .i64 (m : Int)] := (h.cs m (d, b) hz).2
  have lg := own_lab h.oc gc rfl
  have c0 : w.cell? ⟨c, 0, none⟩ = some (.pointer (some ⟨t, 0, none⟩)) := hbc.at_ 0
  have c2 : w.cell? ⟨c, 2, none⟩ = some (.int .i64 (i : Int)) := hbc.at_ 2
  have t3 : w.cell? ⟨t, 3, none⟩ = some (.slice (some ⟨gc, 0, none⟩) T.cur.length cl) := h.box.at_ 3
  have gm : w.cell? ⟨gc, m, none⟩ = some (.pointer (some ⟨d, 0, none⟩)) := by
    have := h.oc.cells (g := gc) rfl m (.pointer (some ⟨d, 0, none⟩)) (by unfold curC; rw [List.getElem?_map, hz]; rfl)
    rwa [add_off] at this
  have gi : w.cell? ⟨gc, i, none⟩ = some (.pointer (some ⟨c, 0, none⟩)) := by
    have := h.oc.cells (g := gc) rfl i (.pointer (some ⟨c, 0, none⟩)) (by unfold curC; rw [List.getElem?_map, hc]; rfl)
    rwa [add_off] at this
  have gf := own_free h.oc i
  have j0 : (0 : Int) ≤ (i : Int) := by omega
  have j1 : (i : Int) < (T.cur.length : Int) := by omega
  have j2 : (0 : Int) ≤ (m : Int) := by omega
  have j3 : (m : Int) < (T.cur.length : Int) := by omega
  have j4 : IntKind.i64.wrap ((T.cur.length : Int) - 1) = (m : Int) := by rw [show (T.cur.length : Int) - 1 = (m : Int) by omega]; exact IntWalk.i64_in _ (by omega)
  have j5 : (m : Int) ≤ (cl : Int) := by omega
  have HH := Veil.mk h
  have HC := Veil.mk hc
  have HZ := Veil.mk hz
  have LG := Veil.mk lg
  have own1 := own_drew (own_put h.oc i (.pointer (some ⟨d, 0, none⟩)))
  clear hz hc lg hgc
  go_enter Tryd.func65, Tryd.ntmps65
  go_upto_region 3 with (first | (go_at_call 79; ((with_reducible refine HO.out.mono ?_); rintro e w1 ⟨rfl, rfl⟩)))
  go_region
  have t1 : Touch (fun k => k = gc) w1 (w1.setCell ⟨gc, i, none⟩ (.pointer (some ⟨d, 0, none⟩))).drew := (Touch.put (S := fun k => k = gc) rfl _ _).trans (Touch.of_below ((Below.refl _ _).drew))
  have n1 : t ≠ gc := h.box.lab.ne LG.out (by decide)
  have n2 : c ≠ gc := hbc.lab.ne LG.out (by decide)
  have n3 : d ≠ gc := hbd.lab.ne LG.out (by decide)
  have n4 : t ≠ c := h.box.lab.ne hbc.lab (by decide)
  have n5 : t ≠ d := h.box.lab.ne hbd.lab (by decide)
  have b1 := h.box.touch t1 n1
  have bc1 := hbc.touch t1 n2
  have bd1 := hbd.touch t1 n3
  generalize (w1.setCell ⟨gc, i, none⟩ (.pointer (some ⟨d, 0, none⟩))).drew = W1 at t1 b1 bc1 bd1 own1 ⊢
  clear c0 c2 t3 gm gi gf hbc hbd h HO
  have t3 : W1.cell? ⟨t, 3, none⟩ = some (.slice (some ⟨gc, 0, none⟩) T.cur.length cl) := b1.at_ 3
  have c2 : W1.cell? ⟨c, 2, none⟩ = some (.int .i64 (i : Int)) := bc1.at_ 2
  have d2 : W1.cell? ⟨d, 2, none⟩ = some (.int .i64 (m : Int)) := bd1.at_ 2
  have d2f := bd1.free 2
  have gi : W1.cell? ⟨gc, i, none⟩ = some (.pointer (some ⟨d, 0, none⟩)) := by
    have := own1.cells (g := gc) rfl i (.pointer (some ⟨d, 0, none⟩)) (by rw [List.getElem?_set_self (by simpa [curC] using hi)])
    rwa [add_off] at this
  go_upto_region 4 with (fail)
  go_region
  have t2 : Touch (fun k => k = d) W1 (W1.setCell ⟨d, 2, none⟩ (.int .i64 (i : Int))).drew := (Touch.put (S := fun k => k = d) rfl _ _).trans (Touch.of_below ((Below.refl _ _).drew))
  have b2 := b1.touch t2 n5
  have own2 := own_touch own1 t2 (fun k hk e => by cases hk; exact n3 e.symm)
  have bd2 : Box (W1.setCell ⟨d, 2, none⟩ (.int .i64 (i : Int))).drew d 133 #[.pointer (some ⟨t, 0, none⟩), .int .i64 (b : Int), .int .i64 (i : Int)] := Box.drew (bd1.put 2 _)
  have bc2 : Box (W1.setCell ⟨d, 2, none⟩ (.int .i64 (i : Int))).drew c 133 #[.pointer (some ⟨t, 0, none⟩), .int .i64 (a : Int), .int .i64 (i : Int)] := by
    by_cases e : c = d
    · subst e
      exact Box.drew (bc1.put 2 _)
    · exact bc1.touch t2 e
  generalize (W1.setCell ⟨d, 2, none⟩ (.int .i64 (i : Int))).drew = W2 at t2 b2 own2 bd2 bc2 ⊢
  replace t2 := (t1.mono (S' := fun k => k = gc ∨ k = d ∨ k = t ∨ k = c) (fun k hk => .inl hk)).trans (t2.mono (fun k hk => .inr (.inl hk)))
  clear t3 c2 d2 d2f gi b1 own1 bd1 bc1 t1
  clear W1
  have t3 : W2.cell? ⟨t, 3, none⟩ = some (.slice (some ⟨gc, 0, none⟩) T.cur.length cl) := b2.at_ 3
  have gm : W2.cell? ⟨gc, m, none⟩ = some (.pointer (some ⟨d, 0, none⟩)) := by
    have := own2.cells (g := gc) rfl m (.pointer (some ⟨d, 0, none⟩)) (by
      by_cases e : i = m
      · subst e; rw [List.getElem?_set_self (by simpa [curC] using hi)]
      · rw [List.getElem?_set_ne e]; unfold curC; rw [List.getElem?_map, HZ.out]; rfl)
    rwa [add_off] at this
  have gf := own_free own2 m
  go_upto_region 6 with (fail)
  have tp := Touch.put (S := fun k => k = gc) (w := W2) rfl m (.pointer none)
  have b3 := b2.touch tp n1
  have own3 := own_take (own_put own2 m (.pointer none)) (by omega : m ≤ T.cur.length)
  have bd3 := bd2.touch tp n3
  have bc3 := bc2.touch tp n2
  generalize W2.setCell ⟨gc, m, none⟩ (.pointer none) = W3 at tp b3 own3 bd3 bc3 ⊢
  replace t2 := t2.trans (tp.mono (S' := fun k => k = gc ∨ k = d ∨ k = t ∨ k = c) (fun k hk => .inl hk))
  clear t3 gm gf b2 own2 bd2 bc2 tp
  clear W2
  have t3 : W3.cell? ⟨t, 3, none⟩ = some (.slice (some ⟨gc, 0, none⟩) T.cur.length cl) := b3.at_ 3
  have t3f := b3.free 3
  go_upto_region 7 with (fail)
  have tp := Touch.put (S := fun k => k = t) (w := W3) rfl 3 (.slice (some ⟨gc, 0, none⟩) m cl)
  have b4 := b3.put 3 (.slice (some ⟨gc, 0, none⟩) m cl)
  have own4 := own_touch own3 tp (fun k hk e => by cases hk; exact n1 e.symm)
  have bd4 := bd3.touch tp (fun e => n5 e.symm)
  have bc4 := bc3.touch tp (fun e => n4 e.symm)
  generalize W3.setCell ⟨t, 3, none⟩ (.slice (some ⟨gc, 0, none⟩) m cl) = W4 at tp b4 own4 bd4 bc4 ⊢
  replace t2 := t2.trans (tp.mono (S' := fun k => k = gc ∨ k = d ∨ k = t ∨ k = c) (fun k hk => .inr (.inr (.inl hk))))
  clear t3 t3f b3 own3 bd3 bc3 tp
  clear W3
  have c0 : W4.cell? ⟨c, 0, none⟩ = some (.pointer (some ⟨t, 0, none⟩)) := bc4.at_ 0
  have c0f := bc4.free 0
  have hD : ∃ z, T.cur[T.cur.length - 1]? = some z ∧ TabPost B t (clT T i z) (Foot t T vs vb (.slice (some ⟨gc, 0, none⟩) T.cur.length cl)) w1 (W4.setCell ⟨c, 0, none⟩ (.pointer none)) ∧ Box (W4.setCell ⟨c, 0, none⟩ (.pointer none)) c 133 #[.pointer none, .int .i64 (a : Int), .int .i64 (i : Int)] := by
    have tp := Touch.put (S := fun k => k = c) (w := W4) rfl 0 (.pointer none)
    have tt := t2.trans (tp.mono (S' := fun k => k = gc ∨ k = d ∨ k = t ∨ k = c) (fun k hk => .inr (.inr (.inr hk))))
    have h := HH.out
    have hc := HC.out
    have hz := HZ.out
    have lc : Lab w1 c _ := (h.cs i (c, a) hc).2.lab
    have ld : Lab w1 d _ := (h.cs m (d, b) hz).2.lab
    have lt := h.box.lab
    refine ⟨(d, b), by rw [show T.cur.length - 1 = m by omega]; exact hz, ⟨vs, vb, .slice (some ⟨gc, 0, none⟩) m cl, ⟨b4.touch tp n4, own_touch h.os tt ?_, own_touch h.ob tt ?_, ?_, ?_, h.bt⟩, tt.mono ?_, ?_⟩, bc4.put 0 _⟩
    · rintro k hk (e | e | e | e) <;> subst e
      · exact (own_lab h.os _ hk).ne LG.out (by decide) rfl
      · exact (own_lab h.os _ hk).ne ld (by decide) rfl
      · exact (own_lab h.os _ hk).ne lt (by decide) rfl
      · exact (own_lab h.os _ hk).ne lc (by decide) rfl
    · rintro k hk (e | e | e | e) <;> subst e
      · exact (own_lab h.ob _ hk).ne LG.out (by decide) rfl
      · exact (own_lab h.ob _ hk).ne ld (by decide) rfl
      · exact (own_lab h.ob _ hk).ne lt (by decide) rfl
      · exact (own_lab h.ob _ hk).ne lc (by decide) rfl
    · have := own_touch own4 tp (fun k hk e => by cases hk; exact n2 e.symm)
      rw [curC_cl T i m (d, b) _ hm] at this
      have hl : (clT T i (d, b)).cur.length = m := by unfold clT; simp; omega
      rw [hl]
      exact this
    · intro j x hx
      obtain ⟨hj, ⟨rfl, rfl⟩ | ⟨hji, hx'⟩⟩ := cl_get hm hx
      · exact ⟨(h.cs m (d, b) hz).1, bd4.touch tp (cs_ne h hz hc (by omega))⟩
      · refine ⟨(h.cs j x hx').1, (h.cs j x hx').2.touch tt ?_⟩
        rintro (e | e | e | e)
        · exact (h.cs j x hx').2.lab.ne LG.out (by decide) e
        · exact cs_ne h hx' hz (by omega) e
        · exact (h.cs j x hx').2.lab.ne lt (by decide) e
        · exact cs_ne h hx' hc hji e
    · rintro k (e | e | e | e)
      · exact .inr (.inr (.inr (.inl (by rw [e]; rfl))))
      · exact .inr (.inr (.inr (.inr ⟨(d, b), List.mem_of_getElem? hz, e.symm⟩)))
      · exact .inl e
      · exact .inr (.inr (.inr (.inr ⟨(c, a), List.mem_of_getElem? hc, e.symm⟩)))
    · rintro k (e | e | e | e | ⟨x, hx, e⟩)
      · exact .inl (.inl e)
      · exact .inl (.inr (.inl e))
      · exact .inl (.inr (.inr (.inl e)))
      · exact .inl (.inr (.inr (.inr (.inl e))))
      · obtain ⟨j, hj, hjx⟩ := List.mem_iff_getElem.1 hx
        obtain ⟨_, ⟨rfl, rfl⟩ | ⟨_, hx'⟩⟩ := cl_get hm (show (clT T i (d, b)).cur[j]? = some x by rw [List.getElem?_eq_getElem hj, hjx])
        · exact .inl (.inr (.inr (.inr (.inr ⟨(d, b), List.mem_of_getElem? hz, e⟩))))
        · exact .inl (.inr (.inr (.inr (.inr ⟨x, List.mem_of_getElem? hx', e⟩))))
  have HD := Veil.mk hD
  clear hD t2 b4 own4 bd4 bc4
  go_wp2
  go_end0
  exact ⟨rfl, HD.out⟩
end Go.Proofs.YtbeapojjbgkalaaDoor
