/- Tables: Next of a cursor that has something left. -/
import Derived.Test.YtbeapojjbgkalaaDoorFo
namespace Go.Proofs.YtbeapojjbgkalaaDoor
open Go.RowKit

def cutT (T : Tab) (i c q : Nat) : Tab := { T with cur := T.cur.set i (c, q) }
theorem ents_step {l : List Sl} {p : Nat} {s : Sl} (h : l[p]? = some s) : ents (l.drop p) = (if s.live then [ent s] else []) ++ ents (l.drop (p + 1)) := by
  obtain ⟨hp, e⟩ := List.getElem?_eq_some_iff.1 h
  rw [List.drop_eq_getElem_cons hp, e]
  show ents ([s] ++ _) = _
  rw [ents_app]
  congr 1
  cases hl : s.live <;> simp [ents, hl]
theorem cur_same (T : Tab) (i c a : Nat) (h : T.cur[i]? = some (c, a)) : cutT T i c a = T := by
  unfold cutT
  have : T.cur.set i (c, a) = T.cur := by
    apply List.ext_getElem?
    intro j
    by_cases e : i = j
    · subst e; rw [List.getElem?_set_self (List.getElem?_eq_some_iff.1 h).1, h]
    · rw [List.getElem?_set_ne e]
  rw [this]
theorem cut_next {w : World} {B t : Nat} {T : Tab} {vs vb vc : Value} {i c p : Nat} (hi : i < T.cur.length) (h : TabAt w B t (cutT T i c p) vs vb vc) (q : Nat) : TabAt (w.setCell ⟨c, 1, none⟩ (.int .i64 (q : Int))) B t (cutT T i c q) vs vb vc := by
  have := h.setAt i (c, p) (List.getElem?_set_self hi) q
  unfold cutT at this ⊢
  simp only [List.set_set] at this
  exact this
def NextPost (B t : Nat) (T : Tab) (vs vb vc : Value) (i c : Nat) (x : En) (r : List En) (w : World) (e : Ending) (w' : World) : Prop :=
  ∃ q, e = .returned (.tuple #[valV x.1, valV x.2.1, .int .i64 x.2.2, .bool true]) ∧ q ≤ T.sl.length ∧ ents (T.sl.drop q) = r ∧ TabAt w' B t (cutT T i c q) vs vb vc ∧ Touch (fun k => k = c) w w'

set_option maxHeartbeats 4000000 in
set_option maxRecDepth 100000 in
theorem next_some (B t : Nat) (T : Tab) (vs vb vc : Value) (hcap : T.sl.length < 100000) (i c a : Nat) (hc : T.cur[i]? = some (c, a)) (x : En) (r : List En) (hx : ents (T.sl.drop a) = x :: r) (w : World) (h : TabAt w B t T vs vb vc) :
    Calls Tryd.prog 66 #[.pointer (some ⟨c, 0, none⟩)] w (NextPost B t T vs vb vc i c x r w) := by
  have hi := (List.getElem?_eq_some_iff.1 hc).1
  obtain ⟨sa, cs, rfl, hcs, hgs2, hms⟩ := slice_own h.os
  obtain ⟨W, hW⟩ : ∃ W, W = (w.alloc (.cells #[.int .i64 0, .int .i64 0, .string ⟨#[]⟩] 45)).alloc (.cells #[.int .i64 0, .int .i64 0, .string ⟨#[]⟩] 45) := ⟨_, rfl⟩
  have hBW : Below w.heap.size w W := by rw [hW]; exact ((Below.refl _ _).alloc (Nat.le_refl _) _).alloc (by simp) _
  have hK : Box W w.heap.size 45 #[.int .i64 0, .int .i64 0, .string ⟨#[]⟩] := by rw [hW]; exact (Box.new w _ _).more _
  have hZ : Box W (w.heap.size + 1) 45 #[.int .i64 0, .int .i64 0, .string ⟨#[]⟩] := by
    rw [hW]
    have := Box.new (w.alloc (.cells #[.int .i64 0, .int .i64 0, .string ⟨#[]⟩] 45)) 45 #[.int .i64 0, .int .i64 0, .string ⟨#[]⟩]
    rwa [World.size_alloc] at this
  have HW := Veil.mk hW
  have hT : TabAt W B t (cutT T i c a) (.slice sa T.sl.length cs) vb vc := by rw [cur_same T i c a hc]; exact h.on hBW
  have HO := Veil.mk (open_any c t (.int .i64 (a : Int)) (.int .i64 (i : Int)) W (hT.cs i (c, a) (List.getElem?_set_self hi)).2)
  have hcl : c < w.heap.size := (h.cs i (c, a) hc).2.lt
  have htw : Touch (fun k => k = c) w W := Touch.of_below hBW
  have HX := Veil.mk hx
  have nil_end : ∀ p : Nat, ents (T.sl.drop p) = x :: r → p < T.sl.length := fun p hp => by
    rcases Nat.lt_or_ge p T.sl.length with h | h
    · exact h
    · rw [List.drop_eq_nil_of_le h] at hp; cases hp
  have HNE := Veil.mk nil_end
  have hal := nil_end a hx
  clear hW h hBW hx hc nil_end
  go_enter Tryd.func66, Tryd.ntmps66
  go_upto_region 1 with (fail)
  rw [← HW.out]
  go_wp2_with (first | (go_at_call 79; ((with_reducible refine HO.out.mono ?_); rintro e w1 ⟨rfl, rfl⟩)))
  go_loopw [6] (fun _ wr => ∃ p : Nat, p ≤ T.sl.length ∧ Veil (ents (T.sl.drop p) = x :: r) ∧ TabAt wr B t (cutT T i c p) (.slice sa T.sl.length cs) vb vc ∧ Box wr w.heap.size 45 #[.int .i64 0, .int .i64 0, .string ⟨#[]⟩] ∧ Box wr (w.heap.size + 1) 45 #[.int .i64 0, .int .i64 0, .string ⟨#[]⟩] ∧ Touch (fun k => k = c) w wr) (fun _ wr => T.sl.length - (intOf ((wr.cell? ⟨c, 1, none⟩).getD (.int .i64 0))).toNat)
  case atStart => exact ⟨a, Nat.le_of_lt hal, HX, hT, hK, hZ, htw⟩
  case round =>
    clear hK hZ HW hT HO htw HX hal
    clear w1
    obtain ⟨p, hp, HX, hT, hK, hZ, htw⟩ := hrel
    have hpl := HNE.out p HX.out
    obtain ⟨gs, rfl⟩ := hgs2 (by omega)
    have hsp : T.sl[p]? = some T.sl[p] := List.getElem?_eq_getElem hpl
    generalize T.sl[p] = s at hsp
    have j0 : (0 : Int) ≤ (p : Int) := by omega
    have j1 : (p : Int) < (T.sl.length : Int) := by omega
    have j2 : IntKind.i64.wrap ((p : Int) + 1) = (p : Int) + 1 := IntWalk.i64_in _ (by omega)
    have c0 : wr.cell? ⟨c, 0, none⟩ = some (.pointer (some ⟨t, 0, none⟩)) := (hT.cs i (c, p) (List.getElem?_set_self hi)).2.at_ 0
    have c1 : wr.cell? ⟨c, 1, none⟩ = some (.int .i64 (p : Int)) := (hT.cs i (c, p) (List.getElem?_set_self hi)).2.at_ 1
    have t0 : wr.cell? ⟨t, 0, none⟩ = some (.slice (some ⟨gs, 0, none⟩) T.sl.length cs) := hT.box.at_ 0
    have hat : T.sl.length - (intOf ((wr.cell? ⟨c, 1, none⟩).getD (.int .i64 0))).toNat = T.sl.length - p := by rw [c1]; simp [intOf]
    rw [hat]
    clear hat
    go_upto_region 3 with (fail)
    go_quiet (fail)
    have hbd := below_drewN (Below.refl wr.heap.size wr) nq
    generalize wr.drewN nq = w2 at hbd ⊢
    replace hT := hT.on hbd
    replace htw := htw.trans (Touch.of_below (S := fun k => k = c) hbd)
    replace hK := hK.on hbd hK.lt
    replace hZ := hZ.on hbd hZ.lt
    clear c0 c1 t0 hbd
    clear wr
    have c0 : w2.cell? ⟨c, 0, none⟩ = some (.pointer (some ⟨t, 0, none⟩)) := (hT.cs i (c, p) (List.getElem?_set_self hi)).2.at_ 0
    have c1 : w2.cell? ⟨c, 1, none⟩ = some (.int .i64 (p : Int)) := (hT.cs i (c, p) (List.getElem?_set_self hi)).2.at_ 1
    have t0 : w2.cell? ⟨t, 0, none⟩ = some (.slice (some ⟨gs, 0, none⟩) T.sl.length cs) := hT.box.at_ 0
    go_upto_region 4 with (fail)
    go_quiet (fail)
    have hbd := below_drewN (Below.refl w2.heap.size w2) nq
    generalize w2.drewN nq = w3 at hbd ⊢
    replace hT := hT.on hbd
    replace htw := htw.trans (Touch.of_below (S := fun k => k = c) hbd)
    replace hK := hK.on hbd hK.lt
    replace hZ := hZ.on hbd hZ.lt
    clear c0 c1 t0 hbd
    clear w2
    have c0 : w3.cell? ⟨c, 0, none⟩ = some (.pointer (some ⟨t, 0, none⟩)) := (hT.cs i (c, p) (List.getElem?_set_self hi)).2.at_ 0
    have c1 : w3.cell? ⟨c, 1, none⟩ = some (.int .i64 (p : Int)) := (hT.cs i (c, p) (List.getElem?_set_self hi)).2.at_ 1
    have t0 : w3.cell? ⟨t, 0, none⟩ = some (.slice (some ⟨gs, 0, none⟩) T.sl.length cs) := hT.box.at_ 0
    have cf := (hT.cs i (c, p) (List.getElem?_set_self hi)).2.free 1
    have hT4 := cut_next hi hT (p + 1)
    rw [show ((p + 1 : Nat) : Int) = (p : Int) + 1 by omega] at hT4
    have tp : Touch (fun k => k = c) w3 (w3.setCell ⟨c, 1, none⟩ (.int .i64 ((p : Int) + 1))) := Touch.put (S := fun k => k = c) rfl _ _
    have htw4 := htw.trans tp
    have hK4 := hK.touch tp (by omega)
    have hZ4 := hZ.touch tp (by omega)
    clear hT htw hK hZ tp t0 c0
    go_upto_region 6 with (fail)
    generalize w3.setCell ⟨c, 1, none⟩ (.int .i64 ((p : Int) + 1)) = w4 at hT4 htw4 hK4 hZ4 ⊢
    clear c1 cf
    clear w3
    obtain ⟨k0, k1, k2, v0, v1, v2, ff, fl, fn⟩ := hT4.slot p s hsp
    have HES := Veil.mk (ents_step hsp)
    have c1 : w4.cell? ⟨c, 1, none⟩ = some (.int .i64 ((p : Int) + 1)) := by
      have := (hT4.cs i (c, p + 1) (List.getElem?_set_self hi)).2.at_ 1
      rw [show ((p + 1 : Nat) : Int) = (p : Int) + 1 by omega] at this
      exact this
    have hgl := (own_lt hT4.os gs rfl).2
    have n0 : gs ≠ w.heap.size := (own_lab hT4.os gs rfl).ne hK4.lab (by decide)
    have n1 : gs ≠ w.heap.size + 1 := (own_lab hT4.os gs rfl).ne hZ4.lab (by decide)
    have n2 : w.heap.size ≠ w.heap.size + 1 := by omega
    have n3 : w.heap.size + 1 ≠ w.heap.size := by omega
    rcases hlv : s.live with _ | _
    · rw [hlv] at fl
      have HR : Veil (ents (T.sl.drop (p + 1)) = x :: r) := ⟨by have := HES.out; rw [hlv] at this; rw [← HX.out, this]; rfl⟩
      clear k0 k1 k2 v0 v1 v2 ff fn hlv HES HX n0 n1 n2 n3
      go_wp2
      go_roundw
      case rel => exact ⟨p + 1, by omega, HR, hT4, hK4, hZ4, htw4⟩
      case measure => rw [c1]; simp [intOf]; omega
    · rw [hlv] at fl
      have HR : Veil (ent s = x ∧ ents (T.sl.drop (p + 1)) = r) := ⟨by
        have := HES.out
        rw [hlv, HX.out] at this
        simpa using (List.cons.inj (this.symm))⟩
      have z0 : w4.cell? ⟨w.heap.size, 0, none⟩ = some (.int .i64 0) := hK4.at_ 0
      have z1 : w4.cell? ⟨w.heap.size, 1, none⟩ = some (.int .i64 0) := hK4.at_ 1
      have z2 : w4.cell? ⟨w.heap.size, 2, none⟩ = some (.string ⟨#[]⟩) := hK4.at_ 2
      have z3 : w4.cell? ⟨w.heap.size + 1, 0, none⟩ = some (.int .i64 0) := hZ4.at_ 0
      have z4 : w4.cell? ⟨w.heap.size + 1, 1, none⟩ = some (.int .i64 0) := hZ4.at_ 1
      have z5 : w4.cell? ⟨w.heap.size + 1, 2, none⟩ = some (.string ⟨#[]⟩) := hZ4.at_ 2
      have g0 := hK4.free 0
      have g1 := hK4.free 1
      have g2 := hK4.free 2
      have g3 := hZ4.free 0
      have g4 := hZ4.free 1
      have g5 := hZ4.free 2
      clear hlv HES HX c1 fn
      go_upto_region 7 with (fail)
      go_region
      have tt : Touch (fun k => k = w.heap.size ∨ k = w.heap.size + 1) w4 ((((((w4.setCell ⟨w.heap.size, 0, none⟩ (.int .i64 s.key.1)).setCell ⟨w.heap.size, 1, none⟩ (.int .i64 s.key.2.1)).setCell ⟨w.heap.size, 2, none⟩ (.string s.key.2.2)).setCell ⟨w.heap.size + 1, 0, none⟩ (.int .i64 s.val.1)).setCell ⟨w.heap.size + 1, 1, none⟩ (.int .i64 s.val.2.1)).setCell ⟨w.heap.size + 1, 2, none⟩ (.string s.val.2.2)) := (((((Touch.put (S := fun k => k = w.heap.size ∨ k = w.heap.size + 1) (.inl rfl) _ _).trans (Touch.put (S := fun k => k = w.heap.size ∨ k = w.heap.size + 1) (.inl rfl) _ _)).trans (Touch.put (S := fun k => k = w.heap.size ∨ k = w.heap.size + 1) (.inl rfl) _ _)).trans (Touch.put (S := fun k => k = w.heap.size ∨ k = w.heap.size + 1) (.inr rfl) _ _)).trans (Touch.put (S := fun k => k = w.heap.size ∨ k = w.heap.size + 1) (.inr rfl) _ _)).trans (Touch.put (S := fun k => k = w.heap.size ∨ k = w.heap.size + 1) (.inr rfl) _ _)
      have tk : Touch (fun k => k = w.heap.size + 1) (((w4.setCell ⟨w.heap.size, 0, none⟩ (.int .i64 s.key.1)).setCell ⟨w.heap.size, 1, none⟩ (.int .i64 s.key.2.1)).setCell ⟨w.heap.size, 2, none⟩ (.string s.key.2.2)) ((((((w4.setCell ⟨w.heap.size, 0, none⟩ (.int .i64 s.key.1)).setCell ⟨w.heap.size, 1, none⟩ (.int .i64 s.key.2.1)).setCell ⟨w.heap.size, 2, none⟩ (.string s.key.2.2)).setCell ⟨w.heap.size + 1, 0, none⟩ (.int .i64 s.val.1)).setCell ⟨w.heap.size + 1, 1, none⟩ (.int .i64 s.val.2.1)).setCell ⟨w.heap.size + 1, 2, none⟩ (.string s.val.2.2)) := ((Touch.put (S := fun k => k = w.heap.size + 1) rfl _ _).trans (Touch.put (S := fun k => k = w.heap.size + 1) rfl _ _)).trans (Touch.put (S := fun k => k = w.heap.size + 1) rfl _ _)
      have tj : Touch (fun k => k = w.heap.size) w4 (((w4.setCell ⟨w.heap.size, 0, none⟩ (.int .i64 s.key.1)).setCell ⟨w.heap.size, 1, none⟩ (.int .i64 s.key.2.1)).setCell ⟨w.heap.size, 2, none⟩ (.string s.key.2.2)) := ((Touch.put (S := fun k => k = w.heap.size) rfl _ _).trans (Touch.put (S := fun k => k = w.heap.size) rfl _ _)).trans (Touch.put (S := fun k => k = w.heap.size) rfl _ _)
      have bK := (((hK4.put 0 (.int .i64 s.key.1)).put 1 (.int .i64 s.key.2.1)).put 2 (.string s.key.2.2)).touch tk (by omega)
      have bZ := (((hZ4.touch tj (by omega)).put 0 (.int .i64 s.val.1)).put 1 (.int .i64 s.val.2.1)).put 2 (.string s.val.2.2)
      clear tj tk
      generalize (((((w4.setCell ⟨w.heap.size, 0, none⟩ (.int .i64 s.key.1)).setCell ⟨w.heap.size, 1, none⟩ (.int .i64 s.key.2.1)).setCell ⟨w.heap.size, 2, none⟩ (.string s.key.2.2)).setCell ⟨w.heap.size + 1, 0, none⟩ (.int .i64 s.val.1)).setCell ⟨w.heap.size + 1, 1, none⟩ (.int .i64 s.val.2.1)).setCell ⟨w.heap.size + 1, 2, none⟩ (.string s.val.2.2) = w5 at tt bK bZ ⊢
      have y0 : w5.drew.cell? ⟨w.heap.size, 0, none⟩ = some (.int .i64 s.key.1) := bK.at_ 0
      have y1 : w5.drew.cell? ⟨w.heap.size, 1, none⟩ = some (.int .i64 s.key.2.1) := bK.at_ 1
      have y2 : w5.drew.cell? ⟨w.heap.size, 2, none⟩ = some (.string s.key.2.2) := bK.at_ 2
      have y3 : w5.drew.cell? ⟨w.heap.size + 1, 0, none⟩ = some (.int .i64 s.val.1) := bZ.at_ 0
      have y4 : w5.drew.cell? ⟨w.heap.size + 1, 1, none⟩ = some (.int .i64 s.val.2.1) := bZ.at_ 1
      have y5 : w5.drew.cell? ⟨w.heap.size + 1, 2, none⟩ = some (.string s.val.2.2) := bZ.at_ 2
      have hD : NextPost B t T (.slice (some ⟨gs, 0, none⟩) T.sl.length cs) vb vc i c x r w (.returned (.tuple #[.agg #[.int .i64 s.key.1, .int .i64 s.key.2.1, .string s.key.2.2], .agg #[.int .i64 s.val.1, .int .i64 s.val.2.1, .string s.val.2.2], .int .i64 s.fl, .bool true])) w5.drew := by
        have td : Touch (fun k => k = w.heap.size ∨ k = w.heap.size + 1) w4 w5.drew := tt.trans (Touch.of_below ((Below.refl _ w5).drew))
        refine ⟨p + 1, by rw [← HR.out.1]; rfl, by omega, HR.out.2, hT4.touch td (fun k hk hs => ?_), ⟨td.os.trans htw4.os, td.tape.trans htw4.tape, td.output.trans htw4.output, Nat.le_trans htw4.size td.size, fun k hk hn => (td.block k (Nat.lt_of_lt_of_le hk htw4.size) (fun h => by omega)).trans (htw4.block k hk hn)⟩⟩
        rcases hk with e | e | e | e | ⟨d, hd, e⟩
        · have hl := hT4.box.lab
          rw [← e] at hl
          rcases hs with h | h <;> subst h
          · exact hl.ne hK4.lab (by decide) rfl
          · exact hl.ne hZ4.lab (by decide) rfl
        · have hl := own_lab hT4.os k e
          rcases hs with h | h <;> subst h
          · exact hl.ne hK4.lab (by decide) rfl
          · exact hl.ne hZ4.lab (by decide) rfl
        · have hl := own_lab hT4.ob k e
          rcases hs with h | h <;> subst h
          · exact hl.ne hK4.lab (by decide) rfl
          · exact hl.ne hZ4.lab (by decide) rfl
        · have hl := own_lab hT4.oc k e
          rcases hs with h | h <;> subst h
          · exact hl.ne hK4.lab (by decide) rfl
          · exact hl.ne hZ4.lab (by decide) rfl
        · obtain ⟨m, hm, rfl⟩ := List.mem_iff_getElem.1 hd
          have hl := (hT4.cs m _ (List.getElem?_eq_getElem hm)).2.lab
          rw [e] at hl
          rcases hs with h | h <;> subst h
          · exact hl.ne hK4.lab (by decide) rfl
          · exact hl.ne hZ4.lab (by decide) rfl
      have HD := Veil.mk hD
      clear hD tt bK bZ z0 z1 z2 z3 z4 z5 g0 g1 g2 g3 g4 g5 k0 k1 k2 v0 v1 v2 ff fl n0 n1 n2 n3
      go_wp2
      exact bodyPost_ret (by simp [results, Tryd.results66, go_sem, y0, y1, y2, y3, y4, y5]) rfl HD.out
end Go.Proofs.YtbeapojjbgkalaaDoor
