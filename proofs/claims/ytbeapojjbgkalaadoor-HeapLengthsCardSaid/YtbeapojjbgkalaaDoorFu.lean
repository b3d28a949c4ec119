/- Tables: Next of a cursor that has nothing left. -/
import Derived.Test.YtbeapojjbgkalaaDoorFt
namespace Go.Proofs.YtbeapojjbgkalaaDoor
open Go.RowKit

def EndPost (B t : Nat) (T : Tab) (i c : Nat) (F : Nat → Prop) (w : World) (e : Ending) (w' : World) : Prop :=
  e = .returned (.tuple #[zeroV, zeroV, .int .i64 0, .bool false]) ∧ ∃ q z, q ≤ T.sl.length ∧ ents (T.sl.drop q) = [] ∧ (cutT T i c q).cur[T.cur.length - 1]? = some z ∧ TabPost B t (clT (cutT T i c q) i z) F w w' ∧ ∃ x y, Box w' c 133 #[.pointer none, x, y]
theorem TabPost.more {B t : Nat} {T : Tab} {F S : Nat → Prop} {w w2 w3 : World} (h : TabPost B t T F w w2) (ht : Touch S w2 w3) (hS : ∀ k, S k → w.heap.size ≤ k ∧ ∃ cs, Box w2 k 45 cs) : TabPost B t T F w w3 := by
  obtain ⟨vs, vb, vc, h1, h2, h3⟩ := h
  refine ⟨vs, vb, vc, h1.touch ht (fun k hk hs => ?_), ⟨ht.os.trans h2.os, ht.tape.trans h2.tape, ht.output.trans h2.output, Nat.le_trans h2.size ht.size, fun k hk hn => (ht.block k (Nat.lt_of_lt_of_le hk h2.size) (fun hs => by have := (hS k hs).1; omega)).trans (h2.block k hk hn)⟩, h3⟩
  obtain ⟨_, cs, hb⟩ := hS k hs
  exact foot_val h1 hb hk

set_option maxHeartbeats 4000000 in
set_option maxRecDepth 100000 in
theorem next_end (B t : Nat) (T : Tab) (vs vb vc : Value) (hcap : T.sl.length < 100000) (hcur : T.cur.length < 100000) (i c a : Nat) (hc : T.cur[i]? = some (c, a)) (hal : a ≤ T.sl.length) (hx : ents (T.sl.drop a) = []) (w : World) (h : TabAt w B t T vs vb vc) :
    Calls Tryd.prog 66 #[.pointer (some ⟨c, 0, none⟩)] w (EndPost B t T i c (Foot t T vs vb vc) w) := by
  have hi := (List.getElem?_eq_some_iff.1 hc).1
  obtain ⟨sa, cs, rfl, hcs, hgs2, hms⟩ := slice_own h.os
  obtain ⟨W, hW⟩ : ∃ W, W = (w.alloc (.cells #[.int .i64 0, .int .i64 0, .string ⟨#[]⟩] 45)).alloc (.cells #[.int .i64 0, .int .i64 0, .string ⟨#[]⟩] 45) := ⟨_, rfl⟩
  have hBW : Below w.heap.size w W := by rw [hW]; exact ((Below.refl _ _).alloc (Nat.le_refl _) _).alloc (by simp) _
  have hK : Box W w.heap.size 45 #[.int .i64 0, .int .i64 0, .string ⟨#[]⟩] := by rw [hW]; exact (Box.new w _ _).more _
  have hZ : Box W (w.heap.size + 1) 45 #[.int .i64 0, .int .i64 0, .string ⟨#[]⟩] := by
    rw [hW]
    have := Box.new (w.alloc (.cells #[.int .i64 0, .int .i64 0, .string ⟨#[]⟩] 45)) 45 #[.int .i64 0, .int .i64 0, .string ⟨#[]⟩]
    rwa [World.size_alloc] at this
  have HW := Veil.mk hW
  have hT : TabAt W B t (cutT T i c a) (.slice sa T.sl.length cs) vb vc := by rw [cur_same T i c a hc]; exact h.on hBW
  have HO := Veil.mk (open_any c t (.int .i64 (a : Int)) (.int .i64 (i : Int)) W (hT.cs i (c, a) (List.getElem?_set_self hi)).2)
  have hcl : c < w.heap.size := (h.cs i (c, a) hc).2.lt
  have htw : Touch (fun k => k = c) w W := Touch.of_below hBW
  have HX := Veil.mk hx
  have HH := Veil.mk h
  have HC := Veil.mk hc
  clear hW h hBW hx hc
  go_enter Tryd.func66, Tryd.ntmps66
  go_upto_region 1 with (fail)
  rw [← HW.out]
  go_wp2_with (first | (go_at_call 79; ((with_reducible refine HO.out.mono ?_); rintro e w1 ⟨rfl, rfl⟩)))
  go_loopw [6] (fun _ wr => ∃ p : Nat, p ≤ T.sl.length ∧ Veil (ents (T.sl.drop p) = []) ∧ TabAt wr B t (cutT T i c p) (.slice sa T.sl.length cs) vb vc ∧ Box wr w.heap.size 45 #[.int .i64 0, .int .i64 0, .string ⟨#[]⟩] ∧ Box wr (w.heap.size + 1) 45 #[.int .i64 0, .int .i64 0, .string ⟨#[]⟩] ∧ Touch (fun k => k = c) w wr) (fun _ wr => T.sl.length - (intOf ((wr.cell? ⟨c, 1, none⟩).getD (.int .i64 0))).toNat)
  case atStart => exact ⟨a, hal, HX, hT, hK, hZ, htw⟩
  case round =>
    clear hK hZ HW hT HO htw HX hal
    clear w1
    obtain ⟨p, hp, HX, hT, hK, hZ, htw⟩ := hrel
    by_cases hpl : p < T.sl.length
    · obtain ⟨gs, rfl⟩ := hgs2 (by omega)
      have hsp : T.sl[p]? = some T.sl[p] := List.getElem?_eq_getElem hpl
      generalize T.sl[p] = s at hsp
      have j0 : (0 : Int) ≤ (p : Int) := by omega
      have j1 : (p : Int) < (T.sl.length : Int) := by omega
      have j2 : IntKind.i64.wrap ((p : Int) + 1) = (p : Int) + 1 := IntWalk.i64_in _ (by omega)
      have c0 : wr.cell? ⟨c, 0, none⟩ = some (.pointer (some ⟨t, 0, none⟩)) := (hT.cs i (c, p) (List.getElem?_set_self hi)).2.at_ 0
      have c1 : wr.cell? ⟨c, 1, none⟩ = some (.int .i64 (p : Int)) := (hT.cs i (c, p) (List.getElem?_set_self hi)).2.at_ 1
      have t0 : wr.cell? ⟨t, 0, none⟩ = some (.slice (some ⟨gs, 0, none⟩) T.sl.length cs) := hT.box.at_ 0
      have hat : T.sl.length - (intOf ((wr.cell? ⟨c, 1, none⟩).getD (.int .i64 0))).toNat = T.sl.length - p := by rw [c1]; simp [intOf]
      rw [hat]
      clear hat
      go_upto_region 3 with (fail)
      go_quiet (fail)
      have hbd := below_drewN (Below.refl wr.heap.size wr) nq
      generalize wr.drewN nq = w2 at hbd ⊢
      replace hT := hT.on hbd
      replace htw := htw.trans (Touch.of_below (S := fun k => k = c) hbd)
      replace hK := hK.on hbd hK.lt
      replace hZ := hZ.on hbd hZ.lt
      clear c0 c1 t0 hbd
      clear wr
      have c0 : w2.cell? ⟨c, 0, none⟩ = some (.pointer (some ⟨t, 0, none⟩)) := (hT.cs i (c, p) (List.getElem?_set_self hi)).2.at_ 0
      have c1 : w2.cell? ⟨c, 1, none⟩ = some (.int .i64 (p : Int)) := (hT.cs i (c, p) (List.getElem?_set_self hi)).2.at_ 1
      have t0 : w2.cell? ⟨t, 0, none⟩ = some (.slice (some ⟨gs, 0, none⟩) T.sl.length cs) := hT.box.at_ 0
      go_upto_region 4 with (fail)
      go_quiet (fail)
      have hbd := below_drewN (Below.refl w2.heap.size w2) nq
      generalize w2.drewN nq = w3 at hbd ⊢
      replace hT := hT.on hbd
      replace htw := htw.trans (Touch.of_below (S := fun k => k = c) hbd)
      replace hK := hK.on hbd hK.lt
      replace hZ := hZ.on hbd hZ.lt
      clear c0 c1 t0 hbd
      clear w2
      have c0 : w3.cell? ⟨c, 0, none⟩ = some (.pointer (some ⟨t, 0, none⟩)) := (hT.cs i (c, p) (List.getElem?_set_self hi)).2.at_ 0
      have c1 : w3.cell? ⟨c, 1, none⟩ = some (.int .i64 (p : Int)) := (hT.cs i (c, p) (List.getElem?_set_self hi)).2.at_ 1
      have t0 : w3.cell? ⟨t, 0, none⟩ = some (.slice (some ⟨gs, 0, none⟩) T.sl.length cs) := hT.box.at_ 0
      have cf := (hT.cs i (c, p) (List.getElem?_set_self hi)).2.free 1
      have hT4 := cut_next hi hT (p + 1)
      rw [show ((p + 1 : Nat) : Int) = (p : Int) + 1 by omega] at hT4
      have tp : Touch (fun k => k = c) w3 (w3.setCell ⟨c, 1, none⟩ (.int .i64 ((p : Int) + 1))) := Touch.put (S := fun k => k = c) rfl _ _
      have htw4 := htw.trans tp
      have hK4 := hK.touch tp (by omega)
      have hZ4 := hZ.touch tp (by omega)
      clear hT htw hK hZ tp t0 c0
      go_upto_region 6 with (fail)
      generalize w3.setCell ⟨c, 1, none⟩ (.int .i64 ((p : Int) + 1)) = w4 at hT4 htw4 hK4 hZ4 ⊢
      clear c1 cf
      clear w3
      obtain ⟨k0, k1, k2, v0, v1, v2, ff, fl, fn⟩ := hT4.slot p s hsp
      have HES := Veil.mk (ents_step hsp)
      have c1 : w4.cell? ⟨c, 1, none⟩ = some (.int .i64 ((p : Int) + 1)) := by
        have := (hT4.cs i (c, p + 1) (List.getElem?_set_self hi)).2.at_ 1
        rw [show ((p + 1 : Nat) : Int) = (p : Int) + 1 by omega] at this
        exact this
      have hgl := (own_lt hT4.os gs rfl).2
      have n0 : gs ≠ w.heap.size := (own_lab hT4.os gs rfl).ne hK4.lab (by decide)
      have n1 : gs ≠ w.heap.size + 1 := (own_lab hT4.os gs rfl).ne hZ4.lab (by decide)
      have n2 : w.heap.size ≠ w.heap.size + 1 := by omega
      have n3 : w.heap.size + 1 ≠ w.heap.size := by omega
      have hdead : s.live = false := by
        cases hl : s.live
        · rfl
        · have := HES.out; rw [hl, HX.out] at this; simp at this
      rw [hdead] at fl
      have HR : Veil (ents (T.sl.drop (p + 1)) = []) := ⟨by have := HES.out; rw [hdead] at this; rw [← HX.out, this]; rfl⟩
      clear k0 k1 k2 v0 v1 v2 ff fn hdead HES HX n0 n1 n2 n3
      go_wp2
      go_roundw
      case rel => exact ⟨p + 1, by omega, HR, hT4, hK4, hZ4, htw4⟩
      case measure => rw [c1]; simp [intOf]; omega
    · have hpe : p = T.sl.length := by omega
      have j1 : ¬ (p : Int) < (T.sl.length : Int) := by omega
      have c0 : wr.cell? ⟨c, 0, none⟩ = some (.pointer (some ⟨t, 0, none⟩)) := (hT.cs i (c, p) (List.getElem?_set_self hi)).2.at_ 0
      have c1 : wr.cell? ⟨c, 1, none⟩ = some (.int .i64 (p : Int)) := (hT.cs i (c, p) (List.getElem?_set_self hi)).2.at_ 1
      have t0 : wr.cell? ⟨t, 0, none⟩ = some (.slice sa T.sl.length cs) := hT.box.at_ 0
      go_upto_region 3 with (fail)
      go_quiet (fail)
      have hbd := below_drewN (Below.refl wr.heap.size wr) nq
      generalize wr.drewN nq = w2 at hbd ⊢
      replace hT := hT.on hbd
      replace htw := htw.trans (Touch.of_below (S := fun k => k = c) hbd)
      replace hK := hK.on hbd hK.lt
      replace hZ := hZ.on hbd hZ.lt
      clear c0 c1 t0 hbd
      have HCL := Veil.mk (close_any B t (cutT T i c p) (.slice sa T.sl.length cs) vb vc (by show (T.cur.set i (c, p)).length < _; rw [List.length_set]; exact hcur) i c p (List.getElem?_set_self hi) w2 hT)
      have HT := Veil.mk hT
      have HK := Veil.mk hK
      have HZ := Veil.mk hZ
      have HTW := Veil.mk htw
      clear hT hK hZ htw
      go_upto_region 9 with (first | (go_at_call 65; ((with_reducible refine HCL.out.mono ?_); rintro e w3 ⟨rfl, z, hzl, hp3, hb3⟩)))
      have hFF : ∀ k, Foot t (cutT T i c p) (.slice sa T.sl.length cs) vb vc k → Foot t T (.slice sa T.sl.length cs) vb vc k := fun k hk => by
        rcases hk with e | e | e | e | ⟨x, hx, e⟩
        · exact .inl e
        · exact .inr (.inl e)
        · exact .inr (.inr (.inl e))
        · exact .inr (.inr (.inr (.inl e)))
        · rcases List.mem_or_eq_of_mem_set (show x ∈ T.cur.set i (c, p) from hx) with h | h
          · exact .inr (.inr (.inr (.inr ⟨x, h, e⟩)))
          · exact .inr (.inr (.inr (.inr ⟨(c, a), List.mem_of_getElem? HC.out, by rw [← e, h]⟩)))
      have hpw : TabPost B t (clT (cutT T i c p) i z) (Foot t T (.slice sa T.sl.length cs) vb vc) w w3 := TabPost.step HT.out (HTW.out.mono (fun k hk => .inr (.inr (.inr (.inr ⟨(c, a), List.mem_of_getElem? HC.out, hk.symm⟩))))) (fun k hk => .inl (hFF k hk)) hp3
      obtain ⟨_, _, _, _, tk, _⟩ := hp3
      have hK := HK.out.touch tk (foot_val HT.out HK.out)
      have hZ := HZ.out.touch tk (foot_val HT.out HZ.out)
      have z0 : w3.cell? ⟨w.heap.size, 0, none⟩ = some (.int .i64 0) := hK.at_ 0
      have z1 : w3.cell? ⟨w.heap.size, 1, none⟩ = some (.int .i64 0) := hK.at_ 1
      have z2 : w3.cell? ⟨w.heap.size, 2, none⟩ = some (.string ⟨#[]⟩) := hK.at_ 2
      have z3 : w3.cell? ⟨w.heap.size + 1, 0, none⟩ = some (.int .i64 0) := hZ.at_ 0
      have z4 : w3.cell? ⟨w.heap.size + 1, 1, none⟩ = some (.int .i64 0) := hZ.at_ 1
      have z5 : w3.cell? ⟨w.heap.size + 1, 2, none⟩ = some (.string ⟨#[]⟩) := hZ.at_ 2
      have g0 := hK.free 0
      have g1 := hK.free 1
      have g2 := hK.free 2
      have g3 := hZ.free 0
      have g4 := hZ.free 1
      have g5 := hZ.free 2
      have n2 : w.heap.size ≠ w.heap.size + 1 := by omega
      have n3 : w.heap.size + 1 ≠ w.heap.size := by omega
      have tj : Touch (fun k => k = w.heap.size) w3 (((w3.setCell ⟨w.heap.size, 0, none⟩ (.int .i64 0)).setCell ⟨w.heap.size, 1, none⟩ (.int .i64 0)).setCell ⟨w.heap.size, 2, none⟩ (.string ⟨#[]⟩)) := ((Touch.put (S := fun k => k = w.heap.size) rfl _ _).trans (Touch.put (S := fun k => k = w.heap.size) rfl _ _)).trans (Touch.put (S := fun k => k = w.heap.size) rfl _ _)
      have tk2 : Touch (fun k => k = w.heap.size + 1) (((w3.setCell ⟨w.heap.size, 0, none⟩ (.int .i64 0)).setCell ⟨w.heap.size, 1, none⟩ (.int .i64 0)).setCell ⟨w.heap.size, 2, none⟩ (.string ⟨#[]⟩)) ((((((w3.setCell ⟨w.heap.size, 0, none⟩ (.int .i64 0)).setCell ⟨w.heap.size, 1, none⟩ (.int .i64 0)).setCell ⟨w.heap.size, 2, none⟩ (.string ⟨#[]⟩)).setCell ⟨w.heap.size + 1, 0, none⟩ (.int .i64 0)).setCell ⟨w.heap.size + 1, 1, none⟩ (.int .i64 0)).setCell ⟨w.heap.size + 1, 2, none⟩ (.string ⟨#[]⟩)) := ((Touch.put (S := fun k => k = w.heap.size + 1) rfl _ _).trans (Touch.put (S := fun k => k = w.heap.size + 1) rfl _ _)).trans (Touch.put (S := fun k => k = w.heap.size + 1) rfl _ _)
      have tt : Touch (fun k => k = w.heap.size ∨ k = w.heap.size + 1) w3 ((((((w3.setCell ⟨w.heap.size, 0, none⟩ (.int .i64 0)).setCell ⟨w.heap.size, 1, none⟩ (.int .i64 0)).setCell ⟨w.heap.size, 2, none⟩ (.string ⟨#[]⟩)).setCell ⟨w.heap.size + 1, 0, none⟩ (.int .i64 0)).setCell ⟨w.heap.size + 1, 1, none⟩ (.int .i64 0)).setCell ⟨w.heap.size + 1, 2, none⟩ (.string ⟨#[]⟩)) := (tj.mono (fun k hk => .inl hk)).trans (tk2.mono (fun k hk => .inr hk))
      have bK := (((hK.put 0 (.int .i64 0)).put 1 (.int .i64 0)).put 2 (.string ⟨#[]⟩)).touch tk2 (by omega)
      have bZ := (((hZ.touch tj (by omega)).put 0 (.int .i64 0)).put 1 (.int .i64 0)).put 2 (.string ⟨#[]⟩)
      have hD : EndPost B t T i c (Foot t T (.slice sa T.sl.length cs) vb vc) w (.returned (.tuple #[zeroV, zeroV, .int .i64 0, .bool false])) ((((((w3.setCell ⟨w.heap.size, 0, none⟩ (.int .i64 0)).setCell ⟨w.heap.size, 1, none⟩ (.int .i64 0)).setCell ⟨w.heap.size, 2, none⟩ (.string ⟨#[]⟩)).setCell ⟨w.heap.size + 1, 0, none⟩ (.int .i64 0)).setCell ⟨w.heap.size + 1, 1, none⟩ (.int .i64 0)).setCell ⟨w.heap.size + 1, 2, none⟩ (.string ⟨#[]⟩)) := by
        have el : (cutT T i c p).cur.length = T.cur.length := by unfold cutT; exact List.length_set
        rw [el] at hzl
        refine ⟨rfl, p, z, hp, HX.out, hzl, TabPost.more hpw tt (fun k hk => ?_), _, _, hb3.touch tt (by omega)⟩
        rcases hk with e | e
        · exact ⟨Nat.le_of_eq e.symm, _, by rw [e]; exact hK⟩
        · exact ⟨by omega, _, by rw [e]; exact hZ⟩
      have y0 : ((((((w3.setCell ⟨w.heap.size, 0, none⟩ (.int .i64 0)).setCell ⟨w.heap.size, 1, none⟩ (.int .i64 0)).setCell ⟨w.heap.size, 2, none⟩ (.string ⟨#[]⟩)).setCell ⟨w.heap.size + 1, 0, none⟩ (.int .i64 0)).setCell ⟨w.heap.size + 1, 1, none⟩ (.int .i64 0)).setCell ⟨w.heap.size + 1, 2, none⟩ (.string ⟨#[]⟩)).cell? ⟨w.heap.size, 0, none⟩ = some (.int .i64 0) := bK.at_ 0
      have y1 : ((((((w3.setCell ⟨w.heap.size, 0, none⟩ (.int .i64 0)).setCell ⟨w.heap.size, 1, none⟩ (.int .i64 0)).setCell ⟨w.heap.size, 2, none⟩ (.string ⟨#[]⟩)).setCell ⟨w.heap.size + 1, 0, none⟩ (.int .i64 0)).setCell ⟨w.heap.size + 1, 1, none⟩ (.int .i64 0)).setCell ⟨w.heap.size + 1, 2, none⟩ (.string ⟨#[]⟩)).cell? ⟨w.heap.size, 1, none⟩ = some (.int .i64 0) := bK.at_ 1
      have y2 : ((((((w3.setCell ⟨w.heap.size, 0, none⟩ (.int .i64 0)).setCell ⟨w.heap.size, 1, none⟩ (.int .i64 0)).setCell ⟨w.heap.size, 2, none⟩ (.string ⟨#[]⟩)).setCell ⟨w.heap.size + 1, 0, none⟩ (.int .i64 0)).setCell ⟨w.heap.size + 1, 1, none⟩ (.int .i64 0)).setCell ⟨w.heap.size + 1, 2, none⟩ (.string ⟨#[]⟩)).cell? ⟨w.heap.size, 2, none⟩ = some (.string ⟨#[]⟩) := bK.at_ 2
      have y3 : ((((((w3.setCell ⟨w.heap.size, 0, none⟩ (.int .i64 0)).setCell ⟨w.heap.size, 1, none⟩ (.int .i64 0)).setCell ⟨w.heap.size, 2, none⟩ (.string ⟨#[]⟩)).setCell ⟨w.heap.size + 1, 0, none⟩ (.int .i64 0)).setCell ⟨w.heap.size + 1, 1, none⟩ (.int .i64 0)).setCell ⟨w.heap.size + 1, 2, none⟩ (.string ⟨#[]⟩)).cell? ⟨w.heap.size + 1, 0, none⟩ = some (.int .i64 0) := bZ.at_ 0
      have y4 : ((((((w3.setCell ⟨w.heap.size, 0, none⟩ (.int .i64 0)).setCell ⟨w.heap.size, 1, none⟩ (.int .i64 0)).setCell ⟨w.heap.size, 2, none⟩ (.string ⟨#[]⟩)).setCell ⟨w.heap.size + 1, 0, none⟩ (.int .i64 0)).setCell ⟨w.heap.size + 1, 1, none⟩ (.int .i64 0)).setCell ⟨w.heap.size + 1, 2, none⟩ (.string ⟨#[]⟩)).cell? ⟨w.heap.size + 1, 1, none⟩ = some (.int .i64 0) := bZ.at_ 1
      have y5 : ((((((w3.setCell ⟨w.heap.size, 0, none⟩ (.int .i64 0)).setCell ⟨w.heap.size, 1, none⟩ (.int .i64 0)).setCell ⟨w.heap.size, 2, none⟩ (.string ⟨#[]⟩)).setCell ⟨w.heap.size + 1, 0, none⟩ (.int .i64 0)).setCell ⟨w.heap.size + 1, 1, none⟩ (.int .i64 0)).setCell ⟨w.heap.size + 1, 2, none⟩ (.string ⟨#[]⟩)).cell? ⟨w.heap.size + 1, 2, none⟩ = some (.string ⟨#[]⟩) := bZ.at_ 2
      have HD := Veil.mk hD
      clear hD tt tj tk2 bK bZ hK hZ hpw hFF tk hb3 hzl HCL
      go_wp2
      generalize (((((w3.setCell ⟨w.heap.size, 0, none⟩ (.int .i64 0)).setCell ⟨w.heap.size, 1, none⟩ (.int .i64 0)).setCell ⟨w.heap.size, 2, none⟩ (.string ⟨#[]⟩)).setCell ⟨w.heap.size + 1, 0, none⟩ (.int .i64 0)).setCell ⟨w.heap.size + 1, 1, none⟩ (.int .i64 0)).setCell ⟨w.heap.size + 1, 2, none⟩ (.string ⟨#[]⟩) = w5 at y0 y1 y2 y3 y4 y5 HD ⊢
      exact bodyPost_ret (by simp [results, Tryd.results66, go_sem, y0, y1, y2, y3, y4, y5]) rfl HD.out
end Go.Proofs.YtbeapojjbgkalaaDoor
