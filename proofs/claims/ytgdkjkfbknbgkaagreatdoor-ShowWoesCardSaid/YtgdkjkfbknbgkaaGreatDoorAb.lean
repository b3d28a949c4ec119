/- Package arena: Make, Push, Pop. -/
import Derived.Test.YtgdkjkfbknbgkaaGreatDoorAa
namespace Go.Proofs.YtgdkjkfbknbgkaaGreatDoor
open Go Go.RowKit

theorem Tryz.infoB : (Tryz.prog.info? 137).map (fun i => (i.zero, i.size, i.bytes)) = some (some .nilIface, 1, 16) := by kernel_rfl
theorem Tryz.infoI : (Tryz.prog.info? 3).map (fun i => (i.zero, i.size, i.bytes)) = some (some (.int .i64 0), 1, 8) := by kernel_rfl
section
variable {w : World} {B A : Nat} {cv fv rv : Value} {d : AD}
theorem ArAt.put0 (h : ArAt w B A cv fv rv d) (cv' : Value) (cs : List (Option Bd)) (ho : w.ownsRow B 137 1 cv' cs.length (cs.map bodyV)) : ArAt (w.setCell ⟨A, 0, none⟩ cv') B A cv' fv rv { d with cells := cs } := by
  have tp : Touch (fun k => k = A) w (w.setCell ⟨A, 0, none⟩ cv') := Touch.put (S := fun k => k = A) rfl _ _
  exact ⟨h.box.put 0 _, own_touch ho tp (fun k hk e => ((own_lab ho k hk).ne h.box.lab (by decide)) e), own_touch h.fo tp (fun k hk e => ((own_lab h.fo k hk).ne h.box.lab (by decide)) e), own_touch h.ro tp (fun k hk e => ((own_lab h.ro k hk).ne h.box.lab (by decide)) e), h.ap, h.ha⟩
theorem ArAt.put1 (h : ArAt w B A cv fv rv d) (fv' : Value) (fs : List Nat) (ho : w.ownsRow B 3 1 fv' fs.length (numsV fs)) (ha : ∀ k, fv'.ownBlock = some k → rv.ownBlock ≠ some k) : ArAt (w.setCell ⟨A, 1, none⟩ fv') B A cv fv' rv { d with free := fs } := by
  have tp : Touch (fun k => k = A) w (w.setCell ⟨A, 1, none⟩ fv') := Touch.put (S := fun k => k = A) rfl _ _
  exact ⟨h.box.put 1 _, own_touch h.co tp (fun k hk e => ((own_lab h.co k hk).ne h.box.lab (by decide)) e), own_touch ho tp (fun k hk e => ((own_lab ho k hk).ne h.box.lab (by decide)) e), own_touch h.ro tp (fun k hk e => ((own_lab h.ro k hk).ne h.box.lab (by decide)) e), ha, h.ha⟩
theorem ArAt.put2 (h : ArAt w B A cv fv rv d) (n : Nat) : ArAt (w.setCell ⟨A, 2, none⟩ (.int .i64 (n : Int))) B A cv fv rv { d with count := n } := by
  have tp : Touch (fun k => k = A) w (w.setCell ⟨A, 2, none⟩ (.int .i64 (n : Int))) := Touch.put (S := fun k => k = A) rfl _ _
  exact ⟨h.box.put 2 _, own_touch h.co tp (fun k hk e => ((own_lab h.co k hk).ne h.box.lab (by decide)) e), own_touch h.fo tp (fun k hk e => ((own_lab h.fo k hk).ne h.box.lab (by decide)) e), own_touch h.ro tp (fun k hk e => ((own_lab h.ro k hk).ne h.box.lab (by decide)) e), h.ap, h.ha⟩
theorem ArAt.put3 (h : ArAt w B A cv fv rv d) (rv' : Value) (rs : List Int) (ho : w.ownsRow B 3 1 rv' rs.length (intsV rs)) (ha : ∀ k, fv.ownBlock = some k → rv'.ownBlock ≠ some k) : ArAt (w.setCell ⟨A, 3, none⟩ rv') B A cv fv rv' { d with roots := rs } := by
  have tp : Touch (fun k => k = A) w (w.setCell ⟨A, 3, none⟩ rv') := Touch.put (S := fun k => k = A) rfl _ _
  exact ⟨h.box.put 3 _, own_touch h.co tp (fun k hk e => ((own_lab h.co k hk).ne h.box.lab (by decide)) e), own_touch h.fo tp (fun k hk e => ((own_lab h.fo k hk).ne h.box.lab (by decide)) e), own_touch ho tp (fun k hk e => ((own_lab ho k hk).ne h.box.lab (by decide)) e), ha, h.ha⟩
theorem ArAt.setB {g n cap : Nat} (h : ArAt w B A (.slice (some ⟨g, 0, none⟩) n cap) fv rv d) (k : Nat) (b : Option Bd) : ArAt (w.setCell ⟨g, k, none⟩ (bodyV b)) B A (.slice (some ⟨g, 0, none⟩) n cap) fv rv { d with cells := d.cells.set k b } := by
  obtain ⟨ao, cap', e, -, -, -⟩ := slice_own h.co
  cases e
  have tp : Touch (fun k => k = g) w (w.setCell ⟨g, k, none⟩ (bodyV b)) := Touch.put (S := fun k => k = g) rfl _ _
  have hl := own_lab h.co g rfl
  refine ⟨h.box.touch tp (fun e => (h.box.lab.ne hl (by decide)) e), ?_, own_touch h.fo tp (fun k hk e => ((own_lab h.fo k hk).ne hl (by decide)) e), own_touch h.ro tp (fun k hk e => ((own_lab h.ro k hk).ne hl (by decide)) e), h.ap, h.ha⟩
  have := own_put h.co k (bodyV b)
  show World.ownsRow _ B _ 1 _ (d.cells.set k b).length ((d.cells.set k b).map bodyV)
  rw [List.length_set, List.map_set]
  exact this
end
/-- A number is taken. -/
def AD.mk2 (d : AD) (nb : Bd) : AD × Nat := match d.free.getLast? with
  | none => (⟨d.cells ++ [some nb], d.free, d.count + 1, d.roots⟩, d.cells.length + 1)
  | some r => (⟨d.cells.set (r - 1) (some nb), d.free.dropLast, d.count + 1, d.roots⟩, r)
abbrev nodeV (nb : Bd) : Value := .iface nb.1 (.pointer (some ⟨nb.2, 0, none⟩))
set_option maxRecDepth 100000 in
theorem nodeV_eql (nb : Bd) (w : World) : (binOp .eql 137 (nodeV nb) .nilIface).run Tryz.prog w = .ok (.bool false) w := rfl
def MkPost (B A : Nat) (d : AD) (nb : Bd) (F : Nat → Prop) (w : World) (e : Ending) (w' : World) : Prop := e = .returned (.int .i64 ((d.mk2 nb).2 : Int)) ∧ ArPost B A (d.mk2 nb).1 F w w'
set_option maxHeartbeats 2000000 in
set_option maxRecDepth 100000 in
theorem make_new (B A : Nat) (cv fv rv : Value) (d : AD) (nb : Bd) (w : World) (h : ArAt w B A cv fv rv d) (hf : d.free = []) (hc : d.count < 4194304) (hl : d.cells.length < 1000000) :
    Calls Tryz.prog 33 #[.pointer (some ⟨A, 0, none⟩), nodeV nb] w (MkPost B A d nb (AFoot A cv fv rv) w) := by
  obtain ⟨i0, hi, hz0, hz1, hz2⟩ := info_parts Tryz.infoB
  obtain ⟨ao, cap, rfl, hcap, hgc, hmc⟩ := slice_own h.co
  obtain ⟨ao1, cap1, rfl, -, -, -⟩ := slice_own h.fo
  have c1 : w.cell? ⟨A, 1, none⟩ = some (.slice ao1 0 cap1) := by rw [h.box.at_ 1, hf]; rfl
  have c2 : w.cell? ⟨A, 2, none⟩ = some (.int .i64 (d.count : Int)) := h.box.at_ 2
  have c2f := h.box.free 2
  have hn := nodeV_eql nb
  have hge : ((d.count : Int) ≥ 4194304) = False := by simp; omega
  have hge2 : ¬ (4194304 : Int) ≤ (d.count : Int) := by omega
  have hc0 : (0 : Int) ≤ (d.count : Int) := by omega
  have hc1 : (d.count : Int) < 4194304 := by omega
  have H := Veil.mk h
  have HM : Veil (MkPost B A d nb = fun F w e w' => e = .returned (.int .i64 ((d.cells.length : Int) + 1)) ∧ ArPost B A ⟨d.cells ++ [some nb], d.free, d.count + 1, d.roots⟩ F w w') := ⟨by
    funext F w e w'
    unfold MkPost AD.mk2
    rw [hf]
    rfl⟩
  rw [HM.out]
  have HF := Veil.mk hf
  clear h hge hf
  go_enter Tryz.func33, Tryz.ntmps33
  go_upto_region 4 with (fail)
  have h1 := H.out.put2 (d.count + 1)
  have t1 : Touch (fun k => k = A) w (w.setCell ⟨A, 2, none⟩ (.int .i64 ((d.count + 1 : Nat) : Int))) := Touch.put (S := fun k => k = A) rfl _ _
  rw [show ((d.count + 1 : Nat) : Int) = (d.count : Int) + 1 by omega] at h1 t1
  generalize w.setCell ⟨A, 2, none⟩ (.int .i64 ((d.count : Int) + 1)) = W at h1 t1 ⊢
  have d1 : W.cell? ⟨A, 1, none⟩ = some (.slice ao1 0 cap1) := by rw [h1.box.at_ 1]; show some (Value.slice ao1 d.free.length cap1) = _; rw [HF.out]; rfl
  have d0 : W.cell? ⟨A, 0, none⟩ = some (.slice ao d.cells.length cap) := h1.box.at_ 0
  have d0f := h1.box.free 0
  have hBs : B ≤ W.heap.size := by have := h1.ha; have := h1.box.lt; omega
  have hap := h1.box.apart h1.co (by decide)
  have tl2 : A < W.heap.size := h1.box.lt
  have hco : W.ownsRow B 137 1 (.slice ao d.cells.length cap) d.cells.length (d.cells.map bodyV) := h1.co
  clear c1 c2 c2f
  go_wp2_with (at_builtin; go_loud (refine wpList_append_lies _ rfl _ _ 153 rfl B 137 i0 .nilIface 1 16 Tryz.underlying153 hi hz0 hz1 hz2 rfl (by decide) _ _ _ rfl (hco.alloc _) ⟨W.heap.size, 0, none⟩ 1 1 [nodeV nb] rfl rfl (news_at _ _ rfl _ _) (by simp [Value.oneCell']) (by decide) (by unfold maxLen; omega) (by omega) (by simp; omega) _ rfl ?_); intro g cap' w3 hown' hgrow3 hblk hg3; have hx3 : Box w3 A _ _ := (h1.box.more _).grown hgrow3 hap; have e12 : w3.cell? ⟨A, 0, none⟩ = some (.slice ao d.cells.length cap) := hx3.at_ 0; have e13 := hx3.free 0; refine Hid.out ?_)
  have hgrow : (W.alloc (.cells #[nodeV nb] 137)).grownBy w3 (Value.slice ao d.cells.length cap).ownBlock := hgrow3
  have hblk' : (Value.slice ao d.cells.length cap).ownBlock = some g ∨ g = (W.alloc (.cells #[nodeV nb] 137)).heap.size := hblk
  have ht : Touch (fun k => (Value.slice ao d.cells.length cap).ownBlock = some k) W w3 := (Touch.of_below ((Below.refl W.heap.size W).alloc (Nat.le_refl _) (.cells #[nodeV nb] 137))).trans (Touch.of_grown hgrow (fun k hk => hk))
  have lc := own_lab h1.co
  have f3 := own_touch h1.fo ht (fun k hk e => (lc k e).ne (own_lab h1.fo k hk) (by decide) rfl)
  have r3 := own_touch h1.ro ht (fun k hk e => (lc k e).ne (own_lab h1.ro k hk) (by decide) rfl)
  have tp : Touch (fun k => k = A) w3 (w3.setCell ⟨A, 0, none⟩ (.slice (some ⟨g, 0, none⟩) (d.cells.length + 1) cap')) := Touch.put (S := fun k => k = A) rfl _ _
  have hnew : w3.ownsRow B 137 1 (.slice (some ⟨g, 0, none⟩) (d.cells.length + 1) cap') (d.cells ++ [some nb]).length ((d.cells ++ [some nb]).map bodyV) := by
    rw [List.length_append, List.map_append]
    exact hown'
  have hD : ArPost B A ⟨d.cells ++ [some nb], d.free, d.count + 1, d.roots⟩ (AFoot A (.slice ao d.cells.length cap) (.slice ao1 d.free.length cap1) rv) w (w3.setCell ⟨A, 0, none⟩ (.slice (some ⟨g, 0, none⟩) (d.cells.length + 1) cap')) := by
    refine ⟨_, _, _, ⟨hx3.put 0 _, own_touch hnew tp (fun k hk e => ((own_lab hnew k hk).ne hx3.lab (by decide)) e), own_touch f3 tp (fun k hk e => ((own_lab f3 k hk).ne hx3.lab (by decide)) e), own_touch r3 tp (fun k hk e => ((own_lab r3 k hk).ne hx3.lab (by decide)) e), h1.ap, h1.ha⟩, ?_, ?_⟩
    · exact (t1.mono (fun k hk => .inl hk)).trans ((ht.mono (fun k hk => .inr (.inl hk))).trans (tp.mono (fun k hk => .inl hk)))
    · rintro k (hk | hk | hk | hk)
      · exact .inl (.inl hk)
      · cases hk
        rcases hblk' with hb | hb
        · exact .inl (.inr (.inl hb))
        · have := t1.size
          refine .inr ?_
          show w.heap.size ≤ g
          rw [hb, World.size_alloc]
          omega
      · exact .inl (.inr (.inr (.inl hk)))
      · exact .inl (.inr (.inr (.inr hk)))
  have HD := Veil.mk hD
  clear hD ht hblk' hgrow hgrow3 hblk hown' h1 hap f3 r3 tp hnew
  refine Lib.hid ?_
  go_upto_region 11 with (fail)
  have x0 : (w3.setCell ⟨A, 0, none⟩ (.slice (some ⟨g, 0, none⟩) (d.cells.length + 1) cap')).cell? ⟨A, 0, none⟩ = some (.slice (some ⟨g, 0, none⟩) (d.cells.length + 1) cap') := (hx3.put 0 _).at_ 0
  generalize w3.setCell ⟨A, 0, none⟩ (.slice (some ⟨g, 0, none⟩) (d.cells.length + 1) cap') = W5 at HD x0 ⊢
  clear hx3 e12 e13 d0 d0f d1
  go_wp2
  go_ret
  exact ⟨rfl, HD.out⟩
set_option maxHeartbeats 2000000 in
set_option maxRecDepth 100000 in
theorem make_old (B A : Nat) (cv fv rv : Value) (d : AD) (nb : Bd) (w : World) (h : ArAt w B A cv fv rv d) (f : List Nat) (r : Nat) (hf : d.free = f ++ [r + 1]) (hr : r < d.cells.length) (hc : d.count < 4194304) (hl : d.cells.length < 1000000) (hfl : d.free.length < 1000000) :
    Calls Tryz.prog 33 #[.pointer (some ⟨A, 0, none⟩), nodeV nb] w (MkPost B A d nb (AFoot A cv fv rv) w) := by
  obtain ⟨ao, cap, rfl, hcap, hgc, hmc⟩ := slice_own h.co
  obtain ⟨gc, rfl⟩ := hgc (by omega)
  obtain ⟨ao1, cap1, rfl, hcap1, hg1, hm1⟩ := slice_own h.fo
  have hfl1 : d.free.length = f.length + 1 := by rw [hf]; simp
  obtain ⟨gf, rfl⟩ := hg1 (by omega)
  have c1 : w.cell? ⟨A, 1, none⟩ = some (.slice (some ⟨gf, 0, none⟩) (f.length + 1) cap1) := by rw [h.box.at_ 1, hfl1]; rfl
  have c2 : w.cell? ⟨A, 2, none⟩ = some (.int .i64 (d.count : Int)) := h.box.at_ 2
  have c2f := h.box.free 2
  have hn := nodeV_eql nb
  have hge2 : ¬ (4194304 : Int) ≤ (d.count : Int) := by omega
  have hc0 : (0 : Int) ≤ (d.count : Int) := by omega
  have hc1 : (d.count : Int) < 4194304 := by omega
  have H := Veil.mk h
  have HM : Veil (MkPost B A d nb = fun F w e w' => e = .returned (.int .i64 ((r : Int) + 1)) ∧ ArPost B A ⟨d.cells.set r (some nb), f, d.count + 1, d.roots⟩ F w w') := ⟨by
    funext F w e w'
    unfold MkPost AD.mk2
    rw [hf, List.getLast?_append]
    simp⟩
  rw [HM.out]
  have HF := Veil.mk hf
  have hfl2 : f.length < 1000000 := by omega
  clear h hf
  go_enter Tryz.func33, Tryz.ntmps33
  go_upto_region 4 with (fail)
  have h1 := H.out.put2 (d.count + 1)
  have t1 : Touch (fun k => k = A) w (w.setCell ⟨A, 2, none⟩ (.int .i64 ((d.count + 1 : Nat) : Int))) := Touch.put (S := fun k => k = A) rfl _ _
  rw [show ((d.count + 1 : Nat) : Int) = (d.count : Int) + 1 by omega] at h1 t1
  generalize w.setCell ⟨A, 2, none⟩ (.int .i64 ((d.count : Int) + 1)) = W at h1 t1 ⊢
  have d1 : W.cell? ⟨A, 1, none⟩ = some (.slice (some ⟨gf, 0, none⟩) (f.length + 1) cap1) := by rw [h1.box.at_ 1]; show some (Value.slice _ d.free.length cap1) = _; rw [hfl1]
  have d1f := h1.box.free 1
  have d2 : W.cell? ⟨gf, f.length, none⟩ = some (.int .i64 ((r : Int) + 1)) := by
    rw [h1.fo.cellAt f.length (by show _ < d.free.length * 1; omega)]
    show (numsV d.free)[f.length]? = _
    rw [HF.out]
    simp
  have hfl0 : (0 : Int) ≤ (f.length : Int) := by omega
  have hcp : (f.length : Int) ≤ (cap1 : Int) := by omega
  have hlt1 : (f.length : Int) < (f.length : Int) + 1 := by omega
  have hsub : (f.length : Int) + 1 - 1 = (f.length : Int) := by omega
  clear c1 c2 c2f
  go_upto_region 8 with (fail)
  have hcut : W.ownsRow B 3 1 (.slice (some ⟨gf, 0, none⟩) f.length cap1) f.length (numsV f) := by
    have := own_take h1.fo (m := f.length) (by show _ ≤ d.free.length; omega)
    have e : (numsV d.free).take f.length = numsV f := by rw [HF.out]; simp
    have h2 : List.take f.length (numsV ({ d with count := d.count + 1 } : AD).free) = numsV f := e
    rw [h2] at this
    exact this
  have h2 := h1.put1 (.slice (some ⟨gf, 0, none⟩) f.length cap1) f hcut (fun k hk => h1.ap k hk)
  have t2 : Touch (fun k => k = A) W (W.setCell ⟨A, 1, none⟩ (.slice (some ⟨gf, 0, none⟩) f.length cap1)) := Touch.put (S := fun k => k = A) rfl _ _
  generalize W.setCell ⟨A, 1, none⟩ (.slice (some ⟨gf, 0, none⟩) f.length cap1) = W5 at h2 t2 ⊢
  have x0 : W5.cell? ⟨A, 0, none⟩ = some (.slice (some ⟨gc, 0, none⟩) d.cells.length cap) := h2.box.at_ 0
  have x1f : W5.frozen? ⟨gc, r, none⟩ = false := own_free h2.co r
  have x1 : ∃ v, W5.cell? ⟨gc, r, none⟩ = some v := by
    rw [h2.co.cellAt r (by show _ < d.cells.length * 1; omega)]
    exact ⟨_, List.getElem?_eq_getElem (by rw [List.length_map]; exact hr)⟩
  obtain ⟨v1, x1⟩ := x1
  have h3 := h2.setB r (some nb)
  have t3 : Touch (fun k => k = gc) W5 (W5.setCell ⟨gc, r, none⟩ (bodyV (some nb))) := Touch.put (S := fun k => k = gc) rfl _ _
  have hD : ArPost B A ⟨d.cells.set r (some nb), f, d.count + 1, d.roots⟩ (AFoot A (.slice (some ⟨gc, 0, none⟩) d.cells.length cap) (.slice (some ⟨gf, 0, none⟩) d.free.length cap1) rv) w (W5.setCell ⟨gc, r, none⟩ (nodeV nb)) := by
    refine ⟨_, _, _, h3, (t1.mono (fun k hk => .inl hk)).trans ((t2.mono (fun k hk => .inl hk)).trans (t3.mono (fun k hk => .inr (.inl (by rw [hk]; rfl))))), fun k hk => ?_⟩
    rcases hk with hk | hk | hk | hk
    · exact .inl (.inl hk)
    · exact .inl (.inr (.inl hk))
    · exact .inl (.inr (.inr (.inl hk)))
    · exact .inl (.inr (.inr (.inr hk)))
  have HD := Veil.mk hD
  have hr0 : (0 : Int) ≤ (r : Int) := by omega
  have hr1 : (r : Int) < (d.cells.length : Int) := by omega
  have hr2 : (r : Int) + 1 - 1 = (r : Int) := by omega
  clear h1 h2 h3 t1 t2 t3 hD hcut d1 d1f d2 hlt1
  go_wp2
  go_ret
  exact ⟨rfl, HD.out⟩
end Go.Proofs.YtgdkjkfbknbgkaaGreatDoor
