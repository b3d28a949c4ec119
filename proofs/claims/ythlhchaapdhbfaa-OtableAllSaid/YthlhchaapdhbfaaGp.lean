/- The reference's table: Next. -/
import Derived.Test.YthlhchaapdhbfaaGf
import Derived.Deep.DeepCutAuto
namespace Go.Proofs.Ythlhchaapdhbfaa
open Go Go.RowKit

theorem Touch.own {S : Nat → Prop} {a w : World} (h : Touch S a w) {g : Nat} (hg : a.heap.size ≤ g) (i : Nat) (u : Value) : Touch S a (w.setCell ⟨g, i, none⟩ u) :=
  ⟨h.os, h.tape, h.output, by simpa [World.setCell] using h.size, fun k hk hn => (Below.heap_setCell w ⟨g, i, none⟩ u k (fun e => by simp at e; omega)).trans (h.block k hk hn)⟩
theorem Touch.on2 {S : Nat → Prop} {a w : World} (h : Touch S a w) {g : Nat} (hg : S g) (i : Nat) (u : Value) : Touch S a (w.setCell ⟨g, i, none⟩ u) := h.trans (Touch.put hg i u)
/-- What a cursor's Next answers: at0 is where it goes on. -/
def RNextP (d : Nat) (l : List Re) (cl : Int) (at0 : Nat) (w : World) (e : Ending) (w' : World) : Prop :=
  Touch (fun k => k = d) w w' ∧ ((∃ (p : Nat) (x : Re), e = .returned (.tuple #[reV x, .bool true]) ∧ liveR (l.drop at0) = (x.key, x.val, x.fl) :: liveR (l.drop (p + 1)) ∧ p + 1 ≤ l.length ∧ Box w' d 125 #[.int .i64 ((p + 1 : Nat) : Int), .int .i64 cl, .bool false]) ∨
    (e = .returned (.tuple #[.agg #[.int .i64 0, .int .i64 0, .string ⟨#[]⟩, .int .i64 0, .int .i64 0, .string ⟨#[]⟩, .int .i64 0, .bool false], .bool false]) ∧ liveR (l.drop at0) = [] ∧ ∃ p : Nat, p ≤ l.length ∧ Box w' d 125 #[.int .i64 (p : Int), .int .i64 cl, .bool true]))
set_option maxHeartbeats 1000000 in
set_option maxRecDepth 100000 in
theorem rnext_shut (gm d : Nat) (a b : Value) (w : World) (h : Box w d 125 #[a, b, .bool true]) :
    Calls Try.prog 65 #[.pointer (some ⟨gm, 0, none⟩), .pointer (some ⟨d, 0, none⟩)] w fun e w' => e = .returned (.tuple #[.agg #[.int .i64 0, .int .i64 0, .string ⟨#[]⟩, .int .i64 0, .int .i64 0, .string ⟨#[]⟩, .int .i64 0, .bool false], .bool false]) ∧ Below w.heap.size w w' := by
  obtain ⟨W, hW⟩ : ∃ W, W = w.alloc (.cells #[.int .i64 0, .int .i64 0, .string ⟨#[]⟩, .int .i64 0, .int .i64 0, .string ⟨#[]⟩, .int .i64 0, .bool false] 84) := ⟨_, rfl⟩
  have hBW : Below w.heap.size w W := by rw [hW]; exact (Below.refl _ _).alloc (Nat.le_refl _) _
  have be : Box W w.heap.size 84 #[.int .i64 0, .int .i64 0, .string ⟨#[]⟩, .int .i64 0, .int .i64 0, .string ⟨#[]⟩, .int .i64 0, .bool false] := by rw [hW]; exact Box.new _ _ _
  have d2 : W.cell? ⟨d, 2, none⟩ = some (.bool true) := (h.on hBW h.lt).at_ 2
  have z0 := be.at_ 0
  have z1 := be.at_ 1
  have z2 := be.at_ 2
  have z3 := be.at_ 3
  have z4 := be.at_ 4
  have z5 := be.at_ 5
  have z6 := be.at_ 6
  have z7 := be.at_ 7
  have f0 := be.free 0
  have f1 := be.free 1
  have f2 := be.free 2
  have f3 := be.free 3
  have f4 := be.free 4
  have f5 := be.free 5
  have f6 := be.free 6
  have f7 := be.free 7
  have HW := Veil.mk hW
  have HB := Veil.mk hBW
  clear hW h hBW
  go_enter Try.func65, Try.ntmps65
  go_upto_region 1 with (fail)
  rw [← HW.out]
  clear HW
  go_upto_region 2 with (fail)
  have b8 := ((((((((be.put 0 (.int .i64 0)).put 1 (.int .i64 0)).put 2 (.string ⟨#[]⟩)).put 3 (.int .i64 0)).put 4 (.int .i64 0)).put 5 (.string ⟨#[]⟩)).put 6 (.int .i64 0)).put 7 (.bool false))
  have hb8 := ((((((((HB.out.setCell (p := ⟨w.heap.size, 0, none⟩) (Nat.le_refl _) (.int .i64 0)).setCell (p := ⟨w.heap.size, 1, none⟩) (Nat.le_refl _) (.int .i64 0)).setCell (p := ⟨w.heap.size, 2, none⟩) (Nat.le_refl _) (.string ⟨#[]⟩)).setCell (p := ⟨w.heap.size, 3, none⟩) (Nat.le_refl _) (.int .i64 0)).setCell (p := ⟨w.heap.size, 4, none⟩) (Nat.le_refl _) (.int .i64 0)).setCell (p := ⟨w.heap.size, 5, none⟩) (Nat.le_refl _) (.string ⟨#[]⟩)).setCell (p := ⟨w.heap.size, 6, none⟩) (Nat.le_refl _) (.int .i64 0)).setCell (p := ⟨w.heap.size, 7, none⟩) (Nat.le_refl _) (.bool false))
  have HB8 := Veil.mk hb8
  have B8 := Veil.mk b8
  clear b8 hb8 be
  go_wp2
  have b8 := B8.out
  have y0 := b8.at_ 0
  have y1 := b8.at_ 1
  have y2 := b8.at_ 2
  have y3 := b8.at_ 3
  have y4 := b8.at_ 4
  have y5 := b8.at_ 5
  have y6 := b8.at_ 6
  have y7 := b8.at_ 7
  generalize ((((((((W.setCell ⟨w.heap.size, 0, none⟩ (.int .i64 0)).setCell ⟨w.heap.size, 1, none⟩ (.int .i64 0)).setCell ⟨w.heap.size, 2, none⟩ (.string ⟨#[]⟩)).setCell ⟨w.heap.size, 3, none⟩ (.int .i64 0)).setCell ⟨w.heap.size, 4, none⟩ (.int .i64 0)).setCell ⟨w.heap.size, 5, none⟩ (.string ⟨#[]⟩)).setCell ⟨w.heap.size, 6, none⟩ (.int .i64 0)).setCell ⟨w.heap.size, 7, none⟩ (.bool false)) = W8 at HB8 b8 y0 y1 y2 y3 y4 y5 y6 y7 ⊢
  exact bodyPost_ret (v := .tuple #[.agg #[.int .i64 0, .int .i64 0, .string ⟨#[]⟩, .int .i64 0, .int .i64 0, .string ⟨#[]⟩, .int .i64 0, .bool false], .bool false]) (by simp [results, Try.results65, go_sem, y0, y1, y2, y3, y4, y5, y6, y7]) rfl ⟨rfl, HB8.out⟩
/-- What the loop keeps. -/
def RnL (B gm d : Nat) (l : List Re) (cl : Int) (vl : Value) (at0 : Nat) (w wr : World) : Prop :=
  ∃ p : Nat, p ≤ l.length ∧ liveR (l.drop p) = liveR (l.drop at0) ∧ Box wr d 125 #[.int .i64 (p : Int), .int .i64 cl, .bool false] ∧ RT wr B gm l cl vl ∧ Box wr w.heap.size 84 #[.int .i64 0, .int .i64 0, .string ⟨#[]⟩, .int .i64 0, .int .i64 0, .string ⟨#[]⟩, .int .i64 0, .bool false] ∧ Touch (fun k => k = d) w wr
set_option maxHeartbeats 1000000 in
set_option maxRecDepth 100000 in
theorem rnext_same (B gm d : Nat) (l : List Re) (cl : Int) (vl : Value) (hl : l.length < 90000) (at_ : Nat) (clr : Int) (hc : cl = clr) (ha : at_ ≤ l.length) (w : World) (hT : RT w B gm l cl vl) (h : Box w d 125 #[.int .i64 (at_ : Int), .int .i64 clr, .bool false]) :
    Calls Try.prog 65 #[.pointer (some ⟨gm, 0, none⟩), .pointer (some ⟨d, 0, none⟩)] w (RNextP d l cl at_ w) := by
  subst hc
  have q0 : (cl != cl) = false := by simp
  obtain ⟨a, cap, rfl, hcap, hg2, hm2⟩ := slice_own hT.own
  obtain ⟨W, hW⟩ : ∃ W, W = w.alloc (.cells #[.int .i64 0, .int .i64 0, .string ⟨#[]⟩, .int .i64 0, .int .i64 0, .string ⟨#[]⟩, .int .i64 0, .bool false] 84) := ⟨_, rfl⟩
  have hBW : Below w.heap.size w W := by rw [hW]; exact (Below.refl _ _).alloc (Nat.le_refl _) _
  have be : Box W w.heap.size 84 #[.int .i64 0, .int .i64 0, .string ⟨#[]⟩, .int .i64 0, .int .i64 0, .string ⟨#[]⟩, .int .i64 0, .bool false] := by rw [hW]; exact Box.new _ _ _
  have bd := h.on hBW h.lt
  have hT1 := hT.on hBW
  have hdl := h.lt
  have d0 : W.cell? ⟨d, 0, none⟩ = some (.int .i64 (at_ : Int)) := bd.at_ 0
  have d1 : W.cell? ⟨d, 1, none⟩ = some (.int .i64 cl) := bd.at_ 1
  have d2 : W.cell? ⟨d, 2, none⟩ = some (.bool false) := bd.at_ 2
  have m1 : W.cell? ⟨gm, 1, none⟩ = some (.int .i64 cl) := hT1.box.at_ 1
  have HW := Veil.mk hW
  have HB := Veil.mk hBW
  have HT1 := Veil.mk hT1
  have BE := Veil.mk be
  have BD := Veil.mk bd
  clear hW h be hBW hT1 bd hT
  go_enter Try.func65, Try.ntmps65
  go_upto_region 1 with (fail)
  rw [← HW.out]
  clear HW
  go_upto_region 3 with (fail)
  go_quiet (fail)
  have hbq := below_drewN (Below.refl W.heap.size W) nq
  have hT2 := HT1.out.on hbq
  have be2 := BE.out.on hbq BE.out.lt
  have bd2 := BD.out.on hbq BD.out.lt
  have hb2 := HB.out.trans (hbq.mono HB.out.size)
  generalize W.drewN nq = W2 at hT2 be2 bd2 hb2 ⊢
  clear d0 d1 d2 m1 hbq
  have HE : Veil (RnL B gm d l cl (.slice a l.length cap) at_ w W2) := ⟨⟨at_, ha, rfl, bd2, hT2, be2, Touch.of_below hb2⟩⟩
  clear hT2 be2 bd2 hb2
  clear HT1 BE BD HB
  go_wp2
  go_loopw [31] (fun s wr => RnL B gm d l cl (.slice a l.length cap) at_ w wr) (fun _ wr => l.length - (intOf ((wr.cell? ⟨d, 0, none⟩).getD (.int .i64 0))).toNat)
  case atStart => exact HE.out
  case round =>
    clear HE
    obtain ⟨p, hp, hlv, bd, hT, be, ht⟩ := hrel
    have d0 : wr.cell? ⟨d, 0, none⟩ = some (.int .i64 (p : Int)) := bd.at_ 0
    have t0 : wr.cell? ⟨gm, 0, none⟩ = some (.slice a l.length cap) := hT.box.at_ 0
    have hms : l.length - (intOf ((wr.cell? ⟨d, 0, none⟩).getD (.int .i64 0))).toNat = l.length - p := by rw [d0]; simp [intOf]
    rw [hms]
    clear hms
    have HLV := Veil.mk hlv
    clear hlv
    by_cases hlt : p < l.length
    · have hlt' : (p : Int) < (l.length : Int) := by omega
      have hp0 : (0 : Int) ≤ (p : Int) := by omega
      obtain ⟨r, rfl⟩ := hg2 (by omega)
      obtain ⟨x, hx⟩ : ∃ x, l[p]? = some x := ⟨_, List.getElem?_eq_getElem hlt⟩
      have HX := Veil.mk hx
      have HS : Veil (liveR (l.drop p) = (if x.gone then [] else [(x.key, x.val, x.fl)]) ++ liveR (l.drop (p + 1))) := ⟨by
        obtain ⟨h1, h2⟩ := List.getElem?_eq_some_iff.1 hx
        rw [List.drop_eq_getElem_cons h1, h2]
        exact (liveR_app [x] _).trans (by rw [liveR_one])⟩
      clear hx hg2
      go_upto_region 7 with (fail)
      go_quiet (fail)
      have hbq := below_drewN (Below.refl wr.heap.size wr) nq
      have hT2 := hT.on hbq
      have be2 := be.on hbq be.lt
      have bd2 := bd.on hbq bd.lt
      have ht2 := ht.trans (Touch.of_below (S := fun k => k = d) hbq)
      generalize wr.drewN nq = W3 at hT2 be2 bd2 ht2 ⊢
      clear d0 t0 hT be bd ht hbq
      have d0 : W3.cell? ⟨d, 0, none⟩ = some (.int .i64 (p : Int)) := bd2.at_ 0
      have t0 : W3.cell? ⟨gm, 0, none⟩ = some (.slice (some ⟨r, 0, none⟩) l.length cap) := hT2.box.at_ 0
      obtain ⟨k0, k1, k2, v0, v1, v2, ff, fg⟩ := hT2.at_ p x HX.out
      go_wp2
      have nn0 := World.new_ne W3 _ d0
      have nn1 := World.new_ne W3 _ t0
      have nn2 := World.new_ne W3 _ k0
      have nn3 := World.new_ne W3 _ k1
      have nn4 := World.new_ne W3 _ k2
      have nn5 := World.new_ne W3 _ v0
      have nn6 := World.new_ne W3 _ v1
      have nn7 := World.new_ne W3 _ v2
      have nn8 := World.new_ne W3 _ ff
      have nn9 := World.new_ne W3 _ fg
      go_region_held3 (fun w' => w'.cell? ⟨d, 0, none⟩ = some (.int .i64 (p : Int)) ∧ w'.cell? ⟨gm, 0, none⟩ = some (.slice (some ⟨r, 0, none⟩) l.length cap) ∧ w'.cell? ⟨r, p * 8, none⟩ = some (.int .i64 x.key.1) ∧ w'.cell? ⟨r, p * 8 + 1, none⟩ = some (.int .i64 x.key.2.1) ∧ w'.cell? ⟨r, p * 8 + 2, none⟩ = some (.string x.key.2.2) ∧ w'.cell? ⟨r, p * 8 + 3, none⟩ = some (.int .i64 x.val.1) ∧ w'.cell? ⟨r, p * 8 + 4, none⟩ = some (.int .i64 x.val.2.1) ∧ w'.cell? ⟨r, p * 8 + 5, none⟩ = some (.string x.val.2.2) ∧ w'.cell? ⟨r, p * 8 + 6, none⟩ = some (.int .i64 x.fl) ∧ w'.cell? ⟨r, p * 8 + 7, none⟩ = some (.bool x.gone)) (go_keep) (fail)
      · have hA : Below W3.heap.size W3 (W3.alloc (.cells #[.int .i64 x.key.1, .int .i64 x.key.2.1, .string x.key.2.2, .int .i64 x.val.1, .int .i64 x.val.2.1, .string x.val.2.2, .int .i64 x.fl, .bool x.gone] 84)).drew := ((Below.refl _ _).alloc (Nat.le_refl _) _).drew
        have bx4 : Box (W3.alloc (.cells #[.int .i64 x.key.1, .int .i64 x.key.2.1, .string x.key.2.2, .int .i64 x.val.1, .int .i64 x.val.2.1, .string x.val.2.2, .int .i64 x.fl, .bool x.gone] 84)).drew W3.heap.size 84 #[.int .i64 x.key.1, .int .i64 x.key.2.1, .string x.key.2.2, .int .i64 x.val.1, .int .i64 x.val.2.1, .string x.val.2.2, .int .i64 x.fl, .bool x.gone] := Box.new W3 _ _
        have bd4 := bd2.on hA bd2.lt
        have be4 := be2.on hA be2.lt
        have hT4 := hT2.on hA
        have ht4 := ht2.trans (Touch.of_below (S := fun k => k = d) hA)
        have hgx : d < W3.heap.size ∧ w.heap.size < W3.heap.size := ⟨bd2.lt, be2.lt⟩
        clear bd2 be2 hT2 ht2 d0 t0 k0 k1 k2 v0 v1 v2 ff fg hA nn0 nn1 nn2 nn3 nn4 nn5 nn6 nn7 nn8 nn9
        generalize (W3.alloc (.cells #[.int .i64 x.key.1, .int .i64 x.key.2.1, .string x.key.2.2, .int .i64 x.val.1, .int .i64 x.val.2.1, .string x.val.2.2, .int .i64 x.fl, .bool x.gone] 84)).drew = W4 at bx4 bd4 be4 hT4 ht4 ⊢
        generalize W3.heap.size = gx at bx4 hgx ⊢
        have hT5 := hT4.touch (Touch.put (S := fun k => k = d) (w := W4) rfl 0 (.int .i64 ((p : Int) + 1))) (fun k hk e => by
          subst e
          rcases hT4.lab hk with h | h
          · exact Lab.ne h bd4.lab (by decide) rfl
          · exact Lab.ne h bd4.lab (by decide) rfl)
        have ht5 := ht4.trans (Touch.put (S := fun k => k = d) (w := W4) rfl 0 (.int .i64 ((p : Int) + 1)))
        have hpc : ((p + 1 : Nat) : Int) = (p : Int) + 1 := by omega
        have bd5 : Box (W4.setCell ⟨d, 0, none⟩ (.int .i64 ((p : Int) + 1))) d 125 #[.int .i64 ((p + 1 : Nat) : Int), .int .i64 cl, .bool false] := by rw [hpc]; exact bd4.put 0 _
        have bx5 := bx4.touch (Touch.put (S := fun k => k = d) (w := W4) rfl 0 (.int .i64 ((p : Int) + 1))) (fun e => by omega)
        have be5 := be4.touch (Touch.put (S := fun k => k = d) (w := W4) rfl 0 (.int .i64 ((p : Int) + 1))) (fun e => by omega)
        have d0 : W4.cell? ⟨d, 0, none⟩ = some (.int .i64 (p : Int)) := bd4.at_ 0
        have f0 := bd4.free 0
        have HT5 := Veil.mk hT5
        have HTT := Veil.mk ht5
        have BD5 := Veil.mk bd5
        clear hT5 ht5 bd5 hT4 ht4 bd4 be4 bx4 hpc
        go_upto_region 9 with (fail)
        generalize W4.setCell ⟨d, 0, none⟩ (.int .i64 ((p : Int) + 1)) = W5 at HT5 HTT BD5 bx5 be5 ⊢
        clear d0 f0
        have x7 : W5.cell? ⟨gx, 7, none⟩ = some (.bool x.gone) := bx5.at_ 7
        rcases hgn : x.gone with _ | _
        · rw [hgn] at x7
          have x0 := bx5.at_ 0
          have x1 := bx5.at_ 1
          have x2 := bx5.at_ 2
          have x3 := bx5.at_ 3
          have x4 := bx5.at_ 4
          have x5 := bx5.at_ 5
          have x6 := bx5.at_ 6
          have f0 := be5.free 0
          have f1 := be5.free 1
          have f2 := be5.free 2
          have f3 := be5.free 3
          have f4 := be5.free 4
          have f5 := be5.free 5
          have f6 := be5.free 6
          have f7 := be5.free 7
          have z0 := be5.at_ 0
          have z1 := be5.at_ 1
          have z2 := be5.at_ 2
          have z3 := be5.at_ 3
          have z4 := be5.at_ 4
          have z5 := be5.at_ 5
          have z6 := be5.at_ 6
          have z7 := be5.at_ 7
          have b8 := ((((((((be5.put 0 (.int .i64 x.key.1)).put 1 (.int .i64 x.key.2.1)).put 2 (.string x.key.2.2)).put 3 (.int .i64 x.val.1)).put 4 (.int .i64 x.val.2.1)).put 5 (.string x.val.2.2)).put 6 (.int .i64 x.fl)).put 7 (.bool false))
          have ht8 := ((((((((HTT.out.own (Nat.le_refl _) 0 (.int .i64 x.key.1)).own (Nat.le_refl _) 1 (.int .i64 x.key.2.1)).own (Nat.le_refl _) 2 (.string x.key.2.2)).own (Nat.le_refl _) 3 (.int .i64 x.val.1)).own (Nat.le_refl _) 4 (.int .i64 x.val.2.1)).own (Nat.le_refl _) 5 (.string x.val.2.2)).own (Nat.le_refl _) 6 (.int .i64 x.fl)).own (Nat.le_refl _) 7 (.bool false))
          have hq8 := (((((((((Touch.refl (fun k => k = w.heap.size) W5).on2 rfl 0 (.int .i64 x.key.1)).on2 rfl 1 (.int .i64 x.key.2.1)).on2 rfl 2 (.string x.key.2.2)).on2 rfl 3 (.int .i64 x.val.1)).on2 rfl 4 (.int .i64 x.val.2.1)).on2 rfl 5 (.string x.val.2.2)).on2 rfl 6 (.int .i64 x.fl)).on2 rfl 7 (.bool false))
          have hb8 := BD5.out.touch hq8 (fun e => by omega)
          clear hq8
          have HT8 := Veil.mk ht8
          have B8 := Veil.mk b8
          have BD8 := Veil.mk hb8
          clear b8 ht8 hb8 be5 bx5
          have HSG : Veil (liveR (l.drop at_) = (x.key, x.val, x.fl) :: liveR (l.drop (p + 1))) := ⟨by rw [← HLV.out, HS.out, hgn]; rfl⟩
          clear HS HLV
          go_wp2
          have y0 := B8.out.at_ 0
          have y1 := B8.out.at_ 1
          have y2 := B8.out.at_ 2
          have y3 := B8.out.at_ 3
          have y4 := B8.out.at_ 4
          have y5 := B8.out.at_ 5
          have y6 := B8.out.at_ 6
          have y7 := B8.out.at_ 7
          generalize ((((((((W5.setCell ⟨w.heap.size, 0, none⟩ (.int .i64 x.key.1)).setCell ⟨w.heap.size, 1, none⟩ (.int .i64 x.key.2.1)).setCell ⟨w.heap.size, 2, none⟩ (.string x.key.2.2)).setCell ⟨w.heap.size, 3, none⟩ (.int .i64 x.val.1)).setCell ⟨w.heap.size, 4, none⟩ (.int .i64 x.val.2.1)).setCell ⟨w.heap.size, 5, none⟩ (.string x.val.2.2)).setCell ⟨w.heap.size, 6, none⟩ (.int .i64 x.fl)).setCell ⟨w.heap.size, 7, none⟩ (.bool false)) = W6 at HT8 BD8 y0 y1 y2 y3 y4 y5 y6 y7 ⊢
          exact bodyPost_ret (v := .tuple #[.agg #[.int .i64 x.key.1, .int .i64 x.key.2.1, .string x.key.2.2, .int .i64 x.val.1, .int .i64 x.val.2.1, .string x.val.2.2, .int .i64 x.fl, .bool false], .bool true]) (by simp [results, Try.results65, go_sem, y0, y1, y2, y3, y4, y5, y6, y7]) rfl ⟨HT8.out, .inl ⟨p, x, by simp only [reV, hgn], HSG.out, by omega, BD8.out⟩⟩
        · rw [hgn] at x7
          have HSG : Veil (liveR (l.drop (p + 1)) = liveR (l.drop at_)) := ⟨by rw [← HLV.out, HS.out, hgn]; rfl⟩
          have hd5 : W5.cell? ⟨d, 0, none⟩ = some (.int .i64 ((p + 1 : Nat) : Int)) := BD5.out.at_ 0
          clear HS HX HLV
          go_wp2
          go_roundw
          case rel => exact ⟨p + 1, by omega, HSG.out, BD5.out, HT5.out, be5, HTT.out⟩
          case measure =>
            rw [hd5]
            simp [intOf]
            omega
    · have hlt' : ¬ (p : Int) < (l.length : Int) := by omega
      have HNL : Veil (liveR (l.drop at_) = []) := ⟨by rw [← HLV.out, List.drop_eq_nil_of_le (by omega)]; rfl⟩
      clear HLV hg2
      go_upto_region 7 with (fail)
      go_quiet (fail)
      have hbq := below_drewN (Below.refl wr.heap.size wr) nq
      have be2 := be.on hbq be.lt
      have bd2 := bd.on hbq bd.lt
      have ht2 := ht.trans (Touch.of_below (S := fun k => k = d) hbq)
      generalize wr.drewN nq = W3 at be2 bd2 ht2 ⊢
      clear d0 t0 hT be bd ht hbq
      have bd3 := bd2.put 2 (.bool true)
      have hneq : d ≠ w.heap.size := by omega
      have be3 := be2.touch (Touch.put (S := fun k => k = d) (w := W3) rfl 2 (.bool true)) (fun e => hneq e.symm)
      have ht3 := ht2.trans (Touch.put (S := fun k => k = d) (w := W3) rfl 2 (.bool true))
      have f2 := bd2.free 2
      have d2 := bd2.at_ 2
      have b8 := ((((((((be3.put 0 (.int .i64 0)).put 1 (.int .i64 0)).put 2 (.string ⟨#[]⟩)).put 3 (.int .i64 0)).put 4 (.int .i64 0)).put 5 (.string ⟨#[]⟩)).put 6 (.int .i64 0)).put 7 (.bool false))
      have ht8 := ((((((((ht3.own (Nat.le_refl _) 0 (.int .i64 0)).own (Nat.le_refl _) 1 (.int .i64 0)).own (Nat.le_refl _) 2 (.string ⟨#[]⟩)).own (Nat.le_refl _) 3 (.int .i64 0)).own (Nat.le_refl _) 4 (.int .i64 0)).own (Nat.le_refl _) 5 (.string ⟨#[]⟩)).own (Nat.le_refl _) 6 (.int .i64 0)).own (Nat.le_refl _) 7 (.bool false))
      have hq8 := (((((((((Touch.refl (fun k => k = w.heap.size) (W3.setCell ⟨d, 2, none⟩ (.bool true))).on2 rfl 0 (.int .i64 0)).on2 rfl 1 (.int .i64 0)).on2 rfl 2 (.string ⟨#[]⟩)).on2 rfl 3 (.int .i64 0)).on2 rfl 4 (.int .i64 0)).on2 rfl 5 (.string ⟨#[]⟩)).on2 rfl 6 (.int .i64 0)).on2 rfl 7 (.bool false))
      have hb8 := bd3.touch hq8 (fun e => by omega)
      clear hq8
      have z0 := be2.at_ 0
      have z1 := be2.at_ 1
      have z2 := be2.at_ 2
      have z3 := be2.at_ 3
      have z4 := be2.at_ 4
      have z5 := be2.at_ 5
      have z6 := be2.at_ 6
      have z7 := be2.at_ 7
      have g0 := be2.free 0
      have g1 := be2.free 1
      have g2 := be2.free 2
      have g3 := be2.free 3
      have g4 := be2.free 4
      have g5 := be2.free 5
      have g6 := be2.free 6
      have g7 := be2.free 7
      have hneq2 := hneq.symm
      have HT8 := Veil.mk ht8
      have B8 := Veil.mk b8
      have BD8 := Veil.mk hb8
      clear b8 ht8 hb8 be3 bd3 ht3 be2 bd2 ht2
      go_wp2
      have y0 := B8.out.at_ 0
      have y1 := B8.out.at_ 1
      have y2 := B8.out.at_ 2
      have y3 := B8.out.at_ 3
      have y4 := B8.out.at_ 4
      have y5 := B8.out.at_ 5
      have y6 := B8.out.at_ 6
      have y7 := B8.out.at_ 7
      generalize (((((((((W3.setCell ⟨d, 2, none⟩ (.bool true)).setCell ⟨w.heap.size, 0, none⟩ (.int .i64 0)).setCell ⟨w.heap.size, 1, none⟩ (.int .i64 0)).setCell ⟨w.heap.size, 2, none⟩ (.string ⟨#[]⟩)).setCell ⟨w.heap.size, 3, none⟩ (.int .i64 0)).setCell ⟨w.heap.size, 4, none⟩ (.int .i64 0)).setCell ⟨w.heap.size, 5, none⟩ (.string ⟨#[]⟩)).setCell ⟨w.heap.size, 6, none⟩ (.int .i64 0)).setCell ⟨w.heap.size, 7, none⟩ (.bool false)) = W6 at HT8 BD8 y0 y1 y2 y3 y4 y5 y6 y7 ⊢
      exact bodyPost_ret (v := .tuple #[.agg #[.int .i64 0, .int .i64 0, .string ⟨#[]⟩, .int .i64 0, .int .i64 0, .string ⟨#[]⟩, .int .i64 0, .bool false], .bool false]) (by simp [results, Try.results65, go_sem, y0, y1, y2, y3, y4, y5, y6, y7]) rfl ⟨HT8.out, .inr ⟨rfl, HNL.out, p, hp, BD8.out⟩⟩
set_option maxHeartbeats 1000000 in
set_option maxRecDepth 100000 in
theorem rnext_other (B gm d : Nat) (l : List Re) (cl : Int) (vl : Value) (hl : l.length < 90000) (at_ : Nat) (clr : Int) (hc : clr ≠ cl) (w : World) (hT : RT w B gm l cl vl) (h : Box w d 125 #[.int .i64 (at_ : Int), .int .i64 clr, .bool false]) :
    Calls Try.prog 65 #[.pointer (some ⟨gm, 0, none⟩), .pointer (some ⟨d, 0, none⟩)] w (RNextP d l cl 0 w) := by
  have q0 : (clr != cl) = true := by simpa using hc
  obtain ⟨a, cap, rfl, hcap, hg2, hm2⟩ := slice_own hT.own
  obtain ⟨W, hW⟩ : ∃ W, W = w.alloc (.cells #[.int .i64 0, .int .i64 0, .string ⟨#[]⟩, .int .i64 0, .int .i64 0, .string ⟨#[]⟩, .int .i64 0, .bool false] 84) := ⟨_, rfl⟩
  have hBW : Below w.heap.size w W := by rw [hW]; exact (Below.refl _ _).alloc (Nat.le_refl _) _
  have be : Box W w.heap.size 84 #[.int .i64 0, .int .i64 0, .string ⟨#[]⟩, .int .i64 0, .int .i64 0, .string ⟨#[]⟩, .int .i64 0, .bool false] := by rw [hW]; exact Box.new _ _ _
  have bd := h.on hBW h.lt
  have hT1 := hT.on hBW
  have hdl := h.lt
  have d0 : W.cell? ⟨d, 0, none⟩ = some (.int .i64 (at_ : Int)) := bd.at_ 0
  have d1 : W.cell? ⟨d, 1, none⟩ = some (.int .i64 clr) := bd.at_ 1
  have d2 : W.cell? ⟨d, 2, none⟩ = some (.bool false) := bd.at_ 2
  have m1 : W.cell? ⟨gm, 1, none⟩ = some (.int .i64 cl) := hT1.box.at_ 1
  have HW := Veil.mk hW
  have HB := Veil.mk hBW
  have HT1 := Veil.mk hT1
  have BE := Veil.mk be
  have BD := Veil.mk bd
  clear hW h be hBW hT1 bd hT
  go_enter Try.func65, Try.ntmps65
  go_upto_region 1 with (fail)
  rw [← HW.out]
  clear HW
  go_upto_region 3 with (fail)
  go_quiet (fail)
  have hbq := below_drewN (Below.refl W.heap.size W) nq
  have hT2 := HT1.out.on hbq
  have be2 := BE.out.on hbq BE.out.lt
  have bd2 := BD.out.on hbq BD.out.lt
  have hb2 := HB.out.trans (hbq.mono HB.out.size)
  generalize W.drewN nq = W2 at hT2 be2 bd2 hb2 ⊢
  clear d0 d1 d2 m1 hbq
  have m1 : W2.cell? ⟨gm, 1, none⟩ = some (.int .i64 cl) := hT2.box.at_ 1
  have g0 := bd2.free 0
  have g1 := bd2.free 1
  have e0 := bd2.at_ 0
  have e1 := bd2.at_ 1
  have htq : Touch (fun k => k = d) W2 ((W2.setCell ⟨d, 1, none⟩ (.int .i64 cl)).setCell ⟨d, 0, none⟩ (.int .i64 0)) := (Touch.put (S := fun k => k = d) (w := W2) rfl 1 (.int .i64 cl)).trans (Touch.put (S := fun k => k = d) rfl 0 (.int .i64 0))
  have bd5 : Box ((W2.setCell ⟨d, 1, none⟩ (.int .i64 cl)).setCell ⟨d, 0, none⟩ (.int .i64 0)) d 125 #[.int .i64 0, .int .i64 cl, .bool false] := (bd2.put 1 (.int .i64 cl)).put 0 (.int .i64 0)
  have hT5 := hT2.touch htq (fun k hk e => by
    subst e
    rcases hT2.lab hk with h | h
    · exact Lab.ne h bd2.lab (by decide) rfl
    · exact Lab.ne h bd2.lab (by decide) rfl)
  have be5 := be2.touch htq (fun e => by omega)
  have ht5 := (Touch.of_below (S := fun k => k = d) hb2).trans htq
  have HT5 := Veil.mk hT5
  have BE5 := Veil.mk be5
  have BD5 := Veil.mk bd5
  have HTT := Veil.mk ht5
  clear hT5 be5 bd5 ht5 htq hT2 be2 bd2 hb2
  go_wp2
  generalize (W2.setCell ⟨d, 1, none⟩ (.int .i64 cl)).setCell ⟨d, 0, none⟩ (.int .i64 0) = W6 at HT5 BE5 BD5 HTT ⊢
  clear m1 g0 g1 e0 e1
  have hT2 := HT5.out
  have be2 := BE5.out
  have bd2 := BD5.out
  have hb2 := HTT.out
  clear HT5 BE5 BD5 HTT
  have HE : Veil (RnL B gm d l cl (.slice a l.length cap) 0 w W6) := ⟨⟨0, Nat.zero_le _, rfl, bd2, hT2, be2, hb2⟩⟩
  clear hT2 be2 bd2 hb2
  clear HT1 BE BD HB
  go_loopw [31] (fun s wr => RnL B gm d l cl (.slice a l.length cap) 0 w wr) (fun _ wr => l.length - (intOf ((wr.cell? ⟨d, 0, none⟩).getD (.int .i64 0))).toNat)
  case atStart => exact HE.out
  case round =>
    clear HE
    obtain ⟨p, hp, hlv, bd, hT, be, ht⟩ := hrel
    have d0 : wr.cell? ⟨d, 0, none⟩ = some (.int .i64 (p : Int)) := bd.at_ 0
    have t0 : wr.cell? ⟨gm, 0, none⟩ = some (.slice a l.length cap) := hT.box.at_ 0
    have hms : l.length - (intOf ((wr.cell? ⟨d, 0, none⟩).getD (.int .i64 0))).toNat = l.length - p := by rw [d0]; simp [intOf]
    rw [hms]
    clear hms
    have HLV := Veil.mk hlv
    clear hlv
    by_cases hlt : p < l.length
    · have hlt' : (p : Int) < (l.length : Int) := by omega
      have hp0 : (0 : Int) ≤ (p : Int) := by omega
      obtain ⟨r, rfl⟩ := hg2 (by omega)
      obtain ⟨x, hx⟩ : ∃ x, l[p]? = some x := ⟨_, List.getElem?_eq_getElem hlt⟩
      have HX := Veil.mk hx
      have HS : Veil (liveR (l.drop p) = (if x.gone then [] else [(x.key, x.val, x.fl)]) ++ liveR (l.drop (p + 1))) := ⟨by
        obtain ⟨h1, h2⟩ := List.getElem?_eq_some_iff.1 hx
        rw [List.drop_eq_getElem_cons h1, h2]
        exact (liveR_app [x] _).trans (by rw [liveR_one])⟩
      clear hx hg2
      go_upto_region 7 with (fail)
      go_quiet (fail)
      have hbq := below_drewN (Below.refl wr.heap.size wr) nq
      have hT2 := hT.on hbq
      have be2 := be.on hbq be.lt
      have bd2 := bd.on hbq bd.lt
      have ht2 := ht.trans (Touch.of_below (S := fun k => k = d) hbq)
      generalize wr.drewN nq = W3 at hT2 be2 bd2 ht2 ⊢
      clear d0 t0 hT be bd ht hbq
      have d0 : W3.cell? ⟨d, 0, none⟩ = some (.int .i64 (p : Int)) := bd2.at_ 0
      have t0 : W3.cell? ⟨gm, 0, none⟩ = some (.slice (some ⟨r, 0, none⟩) l.length cap) := hT2.box.at_ 0
      obtain ⟨k0, k1, k2, v0, v1, v2, ff, fg⟩ := hT2.at_ p x HX.out
      go_wp2
      have nn0 := World.new_ne W3 _ d0
      have nn1 := World.new_ne W3 _ t0
      have nn2 := World.new_ne W3 _ k0
      have nn3 := World.new_ne W3 _ k1
      have nn4 := World.new_ne W3 _ k2
      have nn5 := World.new_ne W3 _ v0
      have nn6 := World.new_ne W3 _ v1
      have nn7 := World.new_ne W3 _ v2
      have nn8 := World.new_ne W3 _ ff
      have nn9 := World.new_ne W3 _ fg
      go_region_held3 (fun w' => w'.cell? ⟨d, 0, none⟩ = some (.int .i64 (p : Int)) ∧ w'.cell? ⟨gm, 0, none⟩ = some (.slice (some ⟨r, 0, none⟩) l.length cap) ∧ w'.cell? ⟨r, p * 8, none⟩ = some (.int .i64 x.key.1) ∧ w'.cell? ⟨r, p * 8 + 1, none⟩ = some (.int .i64 x.key.2.1) ∧ w'.cell? ⟨r, p * 8 + 2, none⟩ = some (.string x.key.2.2) ∧ w'.cell? ⟨r, p * 8 + 3, none⟩ = some (.int .i64 x.val.1) ∧ w'.cell? ⟨r, p * 8 + 4, none⟩ = some (.int .i64 x.val.2.1) ∧ w'.cell? ⟨r, p * 8 + 5, none⟩ = some (.string x.val.2.2) ∧ w'.cell? ⟨r, p * 8 + 6, none⟩ = some (.int .i64 x.fl) ∧ w'.cell? ⟨r, p * 8 + 7, none⟩ = some (.bool x.gone)) (go_keep) (fail)
      · have hA : Below W3.heap.size W3 (W3.alloc (.cells #[.int .i64 x.key.1, .int .i64 x.key.2.1, .string x.key.2.2, .int .i64 x.val.1, .int .i64 x.val.2.1, .string x.val.2.2, .int .i64 x.fl, .bool x.gone] 84)).drew := ((Below.refl _ _).alloc (Nat.le_refl _) _).drew
        have bx4 : Box (W3.alloc (.cells #[.int .i64 x.key.1, .int .i64 x.key.2.1, .string x.key.2.2, .int .i64 x.val.1, .int .i64 x.val.2.1, .string x.val.2.2, .int .i64 x.fl, .bool x.gone] 84)).drew W3.heap.size 84 #[.int .i64 x.key.1, .int .i64 x.key.2.1, .string x.key.2.2, .int .i64 x.val.1, .int .i64 x.val.2.1, .string x.val.2.2, .int .i64 x.fl, .bool x.gone] := Box.new W3 _ _
        have bd4 := bd2.on hA bd2.lt
        have be4 := be2.on hA be2.lt
        have hT4 := hT2.on hA
        have ht4 := ht2.trans (Touch.of_below (S := fun k => k = d) hA)
        have hgx : d < W3.heap.size ∧ w.heap.size < W3.heap.size := ⟨bd2.lt, be2.lt⟩
        clear bd2 be2 hT2 ht2 d0 t0 k0 k1 k2 v0 v1 v2 ff fg hA nn0 nn1 nn2 nn3 nn4 nn5 nn6 nn7 nn8 nn9
        generalize (W3.alloc (.cells #[.int .i64 x.key.1, .int .i64 x.key.2.1, .string x.key.2.2, .int .i64 x.val.1, .int .i64 x.val.2.1, .string x.val.2.2, .int .i64 x.fl, .bool x.gone] 84)).drew = W4 at bx4 bd4 be4 hT4 ht4 ⊢
        generalize W3.heap.size = gx at bx4 hgx ⊢
        have hT5 := hT4.touch (Touch.put (S := fun k => k = d) (w := W4) rfl 0 (.int .i64 ((p : Int) + 1))) (fun k hk e => by
          subst e
          rcases hT4.lab hk with h | h
          · exact Lab.ne h bd4.lab (by decide) rfl
          · exact Lab.ne h bd4.lab (by decide) rfl)
        have ht5 := ht4.trans (Touch.put (S := fun k => k = d) (w := W4) rfl 0 (.int .i64 ((p : Int) + 1)))
        have hpc : ((p + 1 : Nat) : Int) = (p : Int) + 1 := by omega
        have bd5 : Box (W4.setCell ⟨d, 0, none⟩ (.int .i64 ((p : Int) + 1))) d 125 #[.int .i64 ((p + 1 : Nat) : Int), .int .i64 cl, .bool false] := by rw [hpc]; exact bd4.put 0 _
        have bx5 := bx4.touch (Touch.put (S := fun k => k = d) (w := W4) rfl 0 (.int .i64 ((p : Int) + 1))) (fun e => by omega)
        have be5 := be4.touch (Touch.put (S := fun k => k = d) (w := W4) rfl 0 (.int .i64 ((p : Int) + 1))) (fun e => by omega)
        have d0 : W4.cell? ⟨d, 0, none⟩ = some (.int .i64 (p : Int)) := bd4.at_ 0
        have f0 := bd4.free 0
        have HT5 := Veil.mk hT5
        have HTT := Veil.mk ht5
        have BD5 := Veil.mk bd5
        clear hT5 ht5 bd5 hT4 ht4 bd4 be4 bx4 hpc
        go_upto_region 9 with (fail)
        generalize W4.setCell ⟨d, 0, none⟩ (.int .i64 ((p : Int) + 1)) = W5 at HT5 HTT BD5 bx5 be5 ⊢
        clear d0 f0
        have x7 : W5.cell? ⟨gx, 7, none⟩ = some (.bool x.gone) := bx5.at_ 7
        rcases hgn : x.gone with _ | _
        · rw [hgn] at x7
          have x0 := bx5.at_ 0
          have x1 := bx5.at_ 1
          have x2 := bx5.at_ 2
          have x3 := bx5.at_ 3
          have x4 := bx5.at_ 4
          have x5 := bx5.at_ 5
          have x6 := bx5.at_ 6
          have f0 := be5.free 0
          have f1 := be5.free 1
          have f2 := be5.free 2
          have f3 := be5.free 3
          have f4 := be5.free 4
          have f5 := be5.free 5
          have f6 := be5.free 6
          have f7 := be5.free 7
          have z0 := be5.at_ 0
          have z1 := be5.at_ 1
          have z2 := be5.at_ 2
          have z3 := be5.at_ 3
          have z4 := be5.at_ 4
          have z5 := be5.at_ 5
          have z6 := be5.at_ 6
          have z7 := be5.at_ 7
          have b8 := ((((((((be5.put 0 (.int .i64 x.key.1)).put 1 (.int .i64 x.key.2.1)).put 2 (.string x.key.2.2)).put 3 (.int .i64 x.val.1)).put 4 (.int .i64 x.val.2.1)).put 5 (.string x.val.2.2)).put 6 (.int .i64 x.fl)).put 7 (.bool false))
          have ht8 := ((((((((HTT.out.own (Nat.le_refl _) 0 (.int .i64 x.key.1)).own (Nat.le_refl _) 1 (.int .i64 x.key.2.1)).own (Nat.le_refl _) 2 (.string x.key.2.2)).own (Nat.le_refl _) 3 (.int .i64 x.val.1)).own (Nat.le_refl _) 4 (.int .i64 x.val.2.1)).own (Nat.le_refl _) 5 (.string x.val.2.2)).own (Nat.le_refl _) 6 (.int .i64 x.fl)).own (Nat.le_refl _) 7 (.bool false))
          have hq8 := (((((((((Touch.refl (fun k => k = w.heap.size) W5).on2 rfl 0 (.int .i64 x.key.1)).on2 rfl 1 (.int .i64 x.key.2.1)).on2 rfl 2 (.string x.key.2.2)).on2 rfl 3 (.int .i64 x.val.1)).on2 rfl 4 (.int .i64 x.val.2.1)).on2 rfl 5 (.string x.val.2.2)).on2 rfl 6 (.int .i64 x.fl)).on2 rfl 7 (.bool false))
          have hb8 := BD5.out.touch hq8 (fun e => by omega)
          clear hq8
          have HT8 := Veil.mk ht8
          have B8 := Veil.mk b8
          have BD8 := Veil.mk hb8
          clear b8 ht8 hb8 be5 bx5
          have HSG : Veil (liveR (l.drop 0) = (x.key, x.val, x.fl) :: liveR (l.drop (p + 1))) := ⟨by rw [← HLV.out, HS.out, hgn]; rfl⟩
          clear HS HLV
          go_wp2
          have y0 := B8.out.at_ 0
          have y1 := B8.out.at_ 1
          have y2 := B8.out.at_ 2
          have y3 := B8.out.at_ 3
          have y4 := B8.out.at_ 4
          have y5 := B8.out.at_ 5
          have y6 := B8.out.at_ 6
          have y7 := B8.out.at_ 7
          generalize ((((((((W5.setCell ⟨w.heap.size, 0, none⟩ (.int .i64 x.key.1)).setCell ⟨w.heap.size, 1, none⟩ (.int .i64 x.key.2.1)).setCell ⟨w.heap.size, 2, none⟩ (.string x.key.2.2)).setCell ⟨w.heap.size, 3, none⟩ (.int .i64 x.val.1)).setCell ⟨w.heap.size, 4, none⟩ (.int .i64 x.val.2.1)).setCell ⟨w.heap.size, 5, none⟩ (.string x.val.2.2)).setCell ⟨w.heap.size, 6, none⟩ (.int .i64 x.fl)).setCell ⟨w.heap.size, 7, none⟩ (.bool false)) = W6 at HT8 BD8 y0 y1 y2 y3 y4 y5 y6 y7 ⊢
          exact bodyPost_ret (v := .tuple #[.agg #[.int .i64 x.key.1, .int .i64 x.key.2.1, .string x.key.2.2, .int .i64 x.val.1, .int .i64 x.val.2.1, .string x.val.2.2, .int .i64 x.fl, .bool false], .bool true]) (by simp [results, Try.results65, go_sem, y0, y1, y2, y3, y4, y5, y6, y7]) rfl ⟨HT8.out, .inl ⟨p, x, by simp only [reV, hgn], HSG.out, by omega, BD8.out⟩⟩
        · rw [hgn] at x7
          have HSG : Veil (liveR (l.drop (p + 1)) = liveR (l.drop 0)) := ⟨by rw [← HLV.out, HS.out, hgn]; rfl⟩
          have hd5 : W5.cell? ⟨d, 0, none⟩ = some (.int .i64 ((p + 1 : Nat) : Int)) := BD5.out.at_ 0
          clear HS HX HLV
          go_wp2
          go_roundw
          case rel => exact ⟨p + 1, by omega, HSG.out, BD5.out, HT5.out, be5, HTT.out⟩
          case measure =>
            rw [hd5]
            simp [intOf]
            omega
    · have hlt' : ¬ (p : Int) < (l.length : Int) := by omega
      have HNL : Veil (liveR (l.drop 0) = []) := ⟨by rw [← HLV.out, List.drop_eq_nil_of_le (by omega)]; rfl⟩
      clear HLV hg2
      go_upto_region 7 with (fail)
      go_quiet (fail)
      have hbq := below_drewN (Below.refl wr.heap.size wr) nq
      have be2 := be.on hbq be.lt
      have bd2 := bd.on hbq bd.lt
      have ht2 := ht.trans (Touch.of_below (S := fun k => k = d) hbq)
      generalize wr.drewN nq = W3 at be2 bd2 ht2 ⊢
      clear d0 t0 hT be bd ht hbq
      have bd3 := bd2.put 2 (.bool true)
      have hneq : d ≠ w.heap.size := by omega
      have be3 := be2.touch (Touch.put (S := fun k => k = d) (w := W3) rfl 2 (.bool true)) (fun e => hneq e.symm)
      have ht3 := ht2.trans (Touch.put (S := fun k => k = d) (w := W3) rfl 2 (.bool true))
      have f2 := bd2.free 2
      have d2 := bd2.at_ 2
      have b8 := ((((((((be3.put 0 (.int .i64 0)).put 1 (.int .i64 0)).put 2 (.string ⟨#[]⟩)).put 3 (.int .i64 0)).put 4 (.int .i64 0)).put 5 (.string ⟨#[]⟩)).put 6 (.int .i64 0)).put 7 (.bool false))
      have ht8 := ((((((((ht3.own (Nat.le_refl _) 0 (.int .i64 0)).own (Nat.le_refl _) 1 (.int .i64 0)).own (Nat.le_refl _) 2 (.string ⟨#[]⟩)).own (Nat.le_refl _) 3 (.int .i64 0)).own (Nat.le_refl _) 4 (.int .i64 0)).own (Nat.le_refl _) 5 (.string ⟨#[]⟩)).own (Nat.le_refl _) 6 (.int .i64 0)).own (Nat.le_refl _) 7 (.bool false))
      have hq8 := (((((((((Touch.refl (fun k => k = w.heap.size) (W3.setCell ⟨d, 2, none⟩ (.bool true))).on2 rfl 0 (.int .i64 0)).on2 rfl 1 (.int .i64 0)).on2 rfl 2 (.string ⟨#[]⟩)).on2 rfl 3 (.int .i64 0)).on2 rfl 4 (.int .i64 0)).on2 rfl 5 (.string ⟨#[]⟩)).on2 rfl 6 (.int .i64 0)).on2 rfl 7 (.bool false))
      have hb8 := bd3.touch hq8 (fun e => by omega)
      clear hq8
      have z0 := be2.at_ 0
      have z1 := be2.at_ 1
      have z2 := be2.at_ 2
      have z3 := be2.at_ 3
      have z4 := be2.at_ 4
      have z5 := be2.at_ 5
      have z6 := be2.at_ 6
      have z7 := be2.at_ 7
      have g0 := be2.free 0
      have g1 := be2.free 1
      have g2 := be2.free 2
      have g3 := be2.free 3
      have g4 := be2.free 4
      have g5 := be2.free 5
      have g6 := be2.free 6
      have g7 := be2.free 7
      have hneq2 := hneq.symm
      have HT8 := Veil.mk ht8
      have B8 := Veil.mk b8
      have BD8 := Veil.mk hb8
      clear b8 ht8 hb8 be3 bd3 ht3 be2 bd2 ht2
      go_wp2
      have y0 := B8.out.at_ 0
      have y1 := B8.out.at_ 1
      have y2 := B8.out.at_ 2
      have y3 := B8.out.at_ 3
      have y4 := B8.out.at_ 4
      have y5 := B8.out.at_ 5
      have y6 := B8.out.at_ 6
      have y7 := B8.out.at_ 7
      generalize (((((((((W3.setCell ⟨d, 2, none⟩ (.bool true)).setCell ⟨w.heap.size, 0, none⟩ (.int .i64 0)).setCell ⟨w.heap.size, 1, none⟩ (.int .i64 0)).setCell ⟨w.heap.size, 2, none⟩ (.string ⟨#[]⟩)).setCell ⟨w.heap.size, 3, none⟩ (.int .i64 0)).setCell ⟨w.heap.size, 4, none⟩ (.int .i64 0)).setCell ⟨w.heap.size, 5, none⟩ (.string ⟨#[]⟩)).setCell ⟨w.heap.size, 6, none⟩ (.int .i64 0)).setCell ⟨w.heap.size, 7, none⟩ (.bool false)) = W6 at HT8 BD8 y0 y1 y2 y3 y4 y5 y6 y7 ⊢
      exact bodyPost_ret (v := .tuple #[.agg #[.int .i64 0, .int .i64 0, .string ⟨#[]⟩, .int .i64 0, .int .i64 0, .string ⟨#[]⟩, .int .i64 0, .bool false], .bool false]) (by simp [results, Try.results65, go_sem, y0, y1, y2, y3, y4, y5, y6, y7]) rfl ⟨HT8.out, .inr ⟨rfl, HNL.out, p, hp, BD8.out⟩⟩
end Go.Proofs.Ythlhchaapdhbfaa
