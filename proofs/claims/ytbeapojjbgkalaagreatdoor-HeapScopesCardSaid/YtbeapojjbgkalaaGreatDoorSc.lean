/- Package arena: follow, a body that is only followed. -/
import Derived.Test.YtbeapojjbgkalaaGreatDoorSb
import Derived.Laws.ByValue
namespace Go.Proofs.YtbeapojjbgkalaaGreatDoor
open Go Go.RowKit
attribute [local go_sem] Oper.semAt_some

theorem lookup_none (k : Int) (W : World) : (Instr.lookup 110 (.map none) (.int .i64 k) false).run Tryz.prog W = .ok (.slice none 0 0) W := by
  kernel_rfl
theorem method_resolve (nm : String) (r : Value) {a : Act} {g : Operand} (hg : a.eval g = .func (.method nm) #[r] #[]) (l : Nat) (W : World) : (resolve a.eval (rangeCall g l) 0).run Tryz.prog W = .ok { target := .fn (.method nm) #[], args := #[r, .func (.yield l) #[] #[]] } W := by
  simp only [resolve, hg]
  simp [go_sem]
def AxF (a : Act) (x : Int) (a' : Act) (_ : World) : Prop := a' = { tmps := (a.tmps.setIfInBounds 26 (.int .i64 x)).setIfInBounds 5 (.int .i64 x), defers := [] }
set_option maxHeartbeats 4000000 in
set_option maxRecDepth 100000 in
theorem follow_any (B A N m : Nat) (cv fv rv mv tv : Value) (d : AD) (st : List Bool × List Nat) (hg : MGood d st) (hL : d.cells.length < 1000000) (L : List Int) (k : Nat) (nb : Bd) (hk : d.cells[k]? = some (some nb)) (w : World) (hNw : N ≤ w.heap.size)
    (h : ArAt w B A cv fv rv d) (hN : ∀ j, AFoot A cv fv rv j → j < N) (hpl : PlB nb) (hn : FolB N w nb L) (hm : MkAt w N A m mv tv st.1 st.2) :
    Calls Tryz.prog 89 #[.pointer (some ⟨m, 0, none⟩), .int .i64 ((k : Int) + 1)] w (fun e w' => e = .returned (.tuple #[]) ∧ TM N w w' ∧ ∃ tv', MkAt w' N A m mv tv' (L.foldl (markP d) st).1 (L.foldl (markP d) st).2) := by
  have hkl := (List.getElem?_eq_some_iff.1 hk).1
  obtain ⟨g, cap, rfl, hcell⟩ := cell_body h k hkl
  rw [hk] at hcell
  have hcell : w.cell? ⟨g, k, none⟩ = some (nodeV nb) := hcell
  obtain ⟨W1, hW1⟩ : ∃ W1, w.alloc (.cells #[.pointer (some ⟨m, 0, none⟩)] 108) = W1 := ⟨_, rfl⟩
  have hb1 : Below w.heap.size w W1 := by rw [← hW1]; exact (Below.refl _ _).alloc (Nat.le_refl _) _
  have hbN : Below N w W1 := hb1.mono hNw
  have bx1 : Box W1 w.heap.size 108 #[.pointer (some ⟨m, 0, none⟩)] := by rw [← hW1]; exact Box.new _ _ _
  have h1 := h.on hb1
  have m1 := hm.on hb1
  obtain ⟨gf, F, f1, f2, f3⟩ := hn.on hbN
  have HFB := Veil.mk (And.intro f1 (And.intro f2 f3))
  have g1 : W1.cell? ⟨g, k, none⟩ = some (nodeV nb) := by rw [hb1.cell (p := ⟨g, k, none⟩) (World.block_lt_of_cell? w _ hcell)]; exact hcell
  have c0 : W1.cell? ⟨w.heap.size, 0, none⟩ = some (.pointer (some ⟨m, 0, none⟩)) := bx1.at_ 0
  have c1 : W1.cell? ⟨m, 0, none⟩ = some (.pointer (some ⟨A, 0, none⟩)) := m1.box.at_ 0
  have c2 : W1.cell? ⟨A, 0, none⟩ = some (.slice (some ⟨g, 0, none⟩) d.cells.length cap) := h1.box.at_ 0
  have q1 : (k : Int) + 1 - 1 = (k : Int) := by omega
  have q2 : (0 : Int) ≤ (k : Int) := by omega
  have q3 : (k : Int) < (d.cells.length : Int) := by omega
  have q4 : (k : Int) < 1000000 := by omega
  obtain ⟨b0, hb0⟩ : ∃ b0, w.heap.size = b0 := ⟨_, rfl⟩
  have hWs : W1.heap.size = b0 + 1 := by rw [← hW1, ← hb0]; simp
  have HW1 := Veil.mk hW1
  have hNb : N ≤ b0 := by omega
  rw [hb0] at bx1 c0
  have HST := Veil.mk (And.intro h1 (And.intro m1 (And.intro trivial (And.intro (And.intro (TM.of_below (N := N) hb1) hbN) bx1))))
  have HNN := Veil.mk (And.intro hN hNw)
  have HG := Veil.mk hg
  have HB0 := Veil.mk hb0
  have HPL := Veil.mk hpl
  clear h hm hn hcell hW1 hb1 hbN bx1 h1 m1 hN hg hk hkl hb0 f1 f2 f3 hpl
  refine (callsIn_wide (n := 6)).1 (callsIn_of_wp_marks Tryz.func89 rfl trivial (wpIn_wide.2 ?_) rfl)
  simp only [Tryz.ntmps89, List.size_toArray, List.length_cons, List.length_nil, Nat.reduceAdd, Nat.reduceSub, Array.replicate_succ, Array.replicate_zero, List.push_toArray, List.append_toArray, List.nil_append, List.cons_append]
  go_upto_region 1 with (fail)
  rw [HW1.out, HB0.out]
  go_wp2
  obtain ⟨s1, s2, s3, s4, s5⟩ := HST.out
  refine wpIn_wide.1 (wpIn_rangeFunc_read (n := 6) (by omega) (gf := gf) (la := #[.pointer (some ⟨nb.2, 0, none⟩)]) (lb := #[]) (tgt := .fn (.method "Each") #[]) (dargs := fun l => #[nodeV nb, .func (.yield l) #[] #[]]) (fun l W => method_resolve "Each" (nodeV nb) rfl l W) (fun l W => HFB.out.2.1 l W) (encs := fun x : Int => #[.int .i64 x]) (F := F) (S := fun xs => xs = L) (Sp := fun pre => pre <+: L) ?hF ?hseq (fun _ => rfl)
    (FolI N A m b0 mv d st W1) (fun _ _ _ => False) ?hI (fun _ _ _ _ h _ => h.elim) ⟨Below.refl _ _, s5, TM.refl _ _, tv, s2⟩ AxF (fun _ _ _ _ h _ => h) ?assign ?body ?done (fun _ _ _ _ _ _ h _ => h.elim))
  case hF => exact fun j hj => by have := HFB.out.1 j hj; omega
  case hseq =>
    intro W hb
    exact HFB.out.2.2 W (hb.mono (by omega))
  case hI => exact fun s A' B' h ht => h.touchL (by omega) (by omega) ht
  case assign =>
    intro l pre x W K hI hK
    gi_wp2
    exact hK _ _ (Touch.refl _ _) hI rfl
  case body =>
    rintro l pre x a' W ⟨i1, i2, i4, tv2, i3⟩ rfl hsp
    simp only [List.setIfInBounds_toArray, List.set_cons_zero, List.set_cons_succ]
    have hg2 := HG.out.marks pre
    have ha2 := s1.onN HNN.out.1 i1
    have x0 : W.cell? ⟨b0, 0, none⟩ = some (.pointer (some ⟨m, 0, none⟩)) := i2.at_ 0
    have HMK := Veil.mk (mark_any B A N m (.slice (some ⟨g, 0, none⟩) d.cells.length cap) fv rv mv tv2 d _ _ hg2.len hg2.todo hL x W (by have := i1.size; omega) ha2 i3)
    have HI := Veil.mk (And.intro i1 (And.intro i2 (And.intro i4 i3)))
    clear s1 s2 s3 s4 s5 ha2 i1 i2 i3 i4 hg2
    gi_wp2_with (first | (refine ⟨trivial, ?_⟩; gi_at_call 57; ((with_reducible refine ((callsIn_wide.2 HMK.out).inRound l).mono ?_); rintro e W' ⟨rfl, ht, tv3, hm3⟩)))
    obtain ⟨i1, i2, i4, i3⟩ := HI.out
    refine ⟨ht.mono (fun j hj => ⟨fun hr => ?_, i3.cells' hj⟩), i1.trans (ht.below (by have := i1.size; omega) (fun j hj => MFoot.lt i3 hj)), ?_, i4.trans (TM.mark i3 ht), tv3, by rw [List.foldl_append]; exact hm3⟩
    · have h1 := MFoot.lt i3 hj
      have h2 := HFB.out.1 j hr
      omega
    · refine i2.touch ht (fun hj => ?_)
      rcases hj with hj | hj | hj
      · exact i2.lab.ne i3.box.lab (by decide) hj
      · exact i2.lab.ne (own_lab i3.mo b0 hj) (by decide) rfl
      · exact i2.lab.ne (own_lab i3.tq b0 hj) (by decide) rfl
  case done =>
    rintro D xs W hD rfl ⟨i1, i2, i4, tv2, i3⟩ hK
    have x0 : W.cell? ⟨b0, 0, none⟩ = some (.pointer (some ⟨m, 0, none⟩)) := i2.at_ 0
    have x3 : W.cell? ⟨m, 3, none⟩ = some (.map none) := i3.box.at_ 3
    have hlk := lookup_none ((k : Int) + 1)
    have hpa := HPL.out.noP
    have t1 := put_def W D (.deferred none)
    have j4 := i3.touchN t1 (def_lab hK)
    have hbel : TM N w (W.putObj D (.deferred none)) := (HST.out.2.2.2.1.1.trans i4).trans (TM.of t1 (fun k hk => by omega) (fun k hk hl => def_lab hK k _ hl hk))
    have HE := Veil.mk (And.intro j4 (And.intro hbel hK))
    clear s1 s2 s3 s4 s5 i1 i2 i3 i4 hK t1 j4 hbel
    go_wp2
    go_loopw [37] (fun i wr => i = .int .i64 0 ∧ wr = W) (fun _ _ => 0)
    case atStart => exact ⟨rfl, rfl⟩
    case round =>
      obtain ⟨rfl, rfl⟩ := hrel
      go_wp2
      refine ⟨by simp, .inl ⟨_, _, rfl, run_takeDeferred HE.out.2.2, ?_⟩⟩
      exact ⟨_, results_none rfl _ _ _, rfl, HE.out.2.1, tv2, HE.out.1⟩
end Go.Proofs.YtbeapojjbgkalaaGreatDoor
