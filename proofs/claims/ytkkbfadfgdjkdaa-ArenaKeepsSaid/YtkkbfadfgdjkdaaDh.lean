/- Package arena: follow, where nodes have pairs. -/
import Derived.Test.YtkkbfadfgdjkdaaDg
import Derived.Test.YtkkbfadfgdjkdaaAh
import Derived.Laws.ByValue
namespace Go.Proofs.Ytkkbfadfgdjkdaa
open Go Go.RowKit
attribute [local go_sem] Oper.semAt_some

theorem CelO.loop {A : World} {k B : Nat} (h : CelO A k) : ¬ IsLoop B A k := by
  rintro ⟨_, o, h2⟩
  obtain ⟨o', h1, n1, _⟩ := h
  rw [h2] at h1
  cases h1
  exact n1 _ rfl
theorem CelO.def {A : World} {k D : Nat} {x : Option (List Deferred)} (hD : A.heap[D]? = some (.deferred x)) (h : CelO A k) : ¬ k = D := by
  rintro rfl
  obtain ⟨o', h1, _, n1⟩ := h
  rw [hD] at h1
  cases h1
  exact n1 _ rfl
theorem mark_wf (B A N m : Nat) {pv : Value} (cv fv rv mv tv : Value) (d : AD) (M : List Bool) (todo : List Nat) (D : DI) (c : Nat) (hML : M.length = d.cells.length) (hT : todo.length ≤ d.cells.length) (hL : d.cells.length < 1000000) (r : Int) (w : World) (hNw : N ≤ w.heap.size) (h : ArAt w B A cv fv rv d) (hm : MkW w N A m mv tv pv M todo D c) :
    Calls Try.prog 26 #[.pointer (some ⟨m, 0, none⟩), .int .i64 r] w fun e w' => e = .returned (.tuple #[]) ∧ Touch (MFoot m mv tv) w w' ∧ ∃ tv', MkW w' N A m mv tv' pv (markP d (M, todo) r).1 (markP d (M, todo) r).2 D c ∧ ∀ j, tv'.ownBlock = some j → tv.ownBlock = some j ∨ w.heap.size ≤ j :=
  (mark_full B A N m cv fv rv mv tv d M todo hML hT hL r w hNw h hm.mk_).mono fun _ _ ⟨h1, h2, tv', h3, h4⟩ => ⟨h1, h2, tv', hm.marked h2 h3 h4, h4⟩
/-- What waits at a key. -/
theorem look_w {W : World} {N A m c : Nat} {mv tv pv : Value} {M : List Bool} {todo : List Nat} {D : DI} (h : MkW W N A m mv tv pv M todo D c) (hc : c < 100000000000000) (key : Int) (hk : -9223372036854775808 ≤ key ∧ key ≤ 9223372036854775807) :
    ∃ ao cap zs, (Instr.lookup 66 pv (.int .i64 key) false).run Try.prog W = .ok (.slice ao zs.length cap) W ∧ wtOf D key = zs ∧ zs.length ≤ c ∧ W.ownsRow N 3 1 (.slice ao zs.length cap) zs.length (intsV zs) ∧ ∀ g, (Value.slice ao zs.length cap).ownBlock = some g → tv.ownBlock ≠ some g := by
  rcases h.wm with ⟨rfl, rfl⟩ | ⟨b, rfl, hb, hg, hs⟩
  · exact ⟨none, 0, [], lookup_none key W, rfl, Nat.zero_le _, ⟨rfl, .inl ⟨rfl, rfl⟩⟩, fun g hg => by cases hg⟩
  · have hkey := Maps.keyOf_int_mk (P := Try.prog) (k := 3) Try.underlying3 (key_wf hk)
    obtain ⟨u, zs, hrun, hf⟩ := found_at (tv := tv) (Below.refl _ W) hg hs hc hkey
    obtain ⟨ao, cap, e, _⟩ := slice_own hf.own.1
    subst e
    refine ⟨ao, cap, zs, hrun, hf.wt, hf.len, ?_, fun g hg2 => hf.no g hg2⟩
    obtain ⟨h1, h2⟩ := hf.own.1
    refine ⟨h1, h2.imp id (fun ⟨g, cap', cur, q1, q2, q3⟩ => ⟨g, cap', cur, q1, by omega, q3⟩)⟩
/-- The faint ones: none, or an owned row. -/
def FaintAt (w : World) (fv : Value) : Prop := fv = .slice none 0 0 ∨ ∃ g cap F, fv = .slice (some ⟨g, 0, none⟩) F.length cap ∧ F.length ≤ 1000000 ∧ w.ownsRow 0 3 1 fv F.length (intsV F)
theorem FaintAt.touch {S : Nat → Prop} {w w' : World} {fv : Value} (h : FaintAt w fv) (ht : Touch S w w') (hn : ∀ k, fv.ownBlock = some k → ¬ S k) : FaintAt w' fv := h.imp id (fun ⟨g, cap, F, e, q2, q3⟩ => ⟨g, cap, F, e, q2, own_touch q3 ht hn⟩)
/-- A node with its references, its pairs and its faint ones. -/
structure NodeT (w : World) (nb : Nat) (L : List Int) (T : List (Int × Int)) (en : Int) (N : Nat) (X : Nat → Prop) (a : Option Addr) (na ca : Nat) (ta : Option Addr) (nt ct : Nat) (fv : Value) : Prop where
  box : Box w nb 30 #[.slice a na ca, .slice ta nt ct, fv, .int .i64 en]
  ints : Ints w a na L
  tab : TabIs w ta nt T
  small : na ≤ 1000000
  smallT : nt ≤ 1000000
  wf : ∀ p ∈ T, -9223372036854775808 ≤ p.2 ∧ p.2 ≤ 9223372036854775807
  low : nb < N
  rlow : ∀ b, InRow a b ∨ InRow ta b ∨ fv.ownBlock = some b → b < N ∧ ¬ X b ∧ ∃ e, Lab w b e ∧ e ≠ 30
  faint : FaintAt w fv
theorem NodeT.touch {S : Nat → Prop} {w w' : World} {nb N : Nat} {X : Nat → Prop} {L : List Int} {T : List (Int × Int)} {en : Int} {a ta : Option Addr} {na ca nt ct : Nat} {fv : Value} (h : NodeT w nb L T en N X a na ca ta nt ct fv) (ht : Touch S w w') (h1 : ¬ S nb) (h2 : ∀ b, InRow a b ∨ InRow ta b ∨ fv.ownBlock = some b → ¬ S b) : NodeT w' nb L T en N X a na ca ta nt ct fv :=
  ⟨h.box.touch ht h1, h.ints.touch ht (fun b o e => h2 b (.inl ⟨o, e⟩)), h.tab.touch ht (fun b hb => h2 b (.inr (.inl hb))), h.small, h.smallT, h.wf, h.low, (fun b hb => by
    obtain ⟨q1, q2, e, q3, q4⟩ := h.rlow b hb
    exact ⟨q1, q2, e, q3.touch ht (h2 b hb), q4⟩), h.faint.touch ht (fun k hk => h2 k (.inr (.inr hk)))⟩
theorem NodeT.onN {w w' : World} {nb N : Nat} {X : Nat → Prop} {L : List Int} {T : List (Int × Int)} {en : Int} {a ta : Option Addr} {na ca nt ct : Nat} {fv : Value} (h : NodeT w nb L T en N X a na ca ta nt ct fv) (hb : Below N w w') : NodeT w' nb L T en N X a na ca ta nt ct fv :=
  h.touch (Touch.of_belowN hb) (by have := h.low; omega) (fun b hr hn => by have := (h.rlow b hr).1; omega)
def NodesT (w : World) (d : AD) (to_ : Nat → List Int) (tab : Nat → List (Int × Int)) (en : Nat → Int) (N : Nat) (X : Nat → Prop) : Prop := ∀ (k nb : Nat), d.cells[k]? = some (some nb) → ∃ a na ca ta nt ct fv, NodeT w nb (to_ nb) (tab nb) (en nb) N X a na ca ta nt ct fv
theorem NodesT.onN {w w' : World} {d : AD} {to_ : Nat → List Int} {tab : Nat → List (Int × Int)} {en : Nat → Int} {N : Nat} {X : Nat → Prop} (h : NodesT w d to_ tab en N X) (hb : Below N w w') : NodesT w' d to_ tab en N X := fun k nb hk => by
  obtain ⟨a, na, ca, ta, nt, ct, fv, hn⟩ := h k nb hk
  exact ⟨a, na, ca, ta, nt, ct, fv, hn.onN hb⟩
/-- How the marks are while a node is followed. -/
def FolW (N A m b0 : Nat) (mv : Value) (s : (List Bool × List Nat) × (Int → List Int)) (c : Nat) (W0 W : World) : Prop :=
  Below N W0 W ∧ Box W b0 65 #[.pointer (some ⟨m, 0, none⟩)] ∧ TM N W0 W ∧ ∃ tv pv D, MkW W N A m mv tv pv s.1.1 s.1.2 D c ∧ wtOf D = s.2
theorem FolW.touchL {N A m b0 Bb c : Nat} {mv : Value} {s : (List Bool × List Nat) × (Int → List Int)} {W0 W W' : World} (h : FolW N A m b0 mv s c W0 W) (hN : N ≤ Bb) (hW : N ≤ W0.heap.size) (ht : Touch (IsLoop Bb W) W W') : FolW N A m b0 mv s c W0 W' := by
  obtain ⟨h1, h2, h4, tv, pv, D, h3, h5⟩ := h
  exact ⟨h1.trans (ht.below (by have := h1.size; omega) (fun k hk => by have := hk.1; omega)), h2.touch ht (loop_lab h2.lab), h4.trans (TM.of ht (fun k hk => by have := hk.1; omega) (fun k hk hl => loop_lab hl hk)), tv, pv, D, h3.touchC ht (fun j hj => hj.loop), h5⟩
theorem pairs_good {d : AD} : ∀ (T : List (Int × Int)) (s : (List Bool × List Nat) × (Int → List Int)), MGood d s.1 → MGood d (T.foldl (pairP d) s).1
  | [], _, h => h
  | p :: T, s, h => pairs_good T (pairP d s p) (pairP_good h p)
def AxP (a : Act) (x : Int × Int) (a' : Act) (_ : World) : Prop := a' = { tmps := (((a.tmps.setIfInBounds 54 (.int .i64 x.1)).setIfInBounds 55 (.int .i64 x.2)).setIfInBounds 10 (.int .i64 x.1)).setIfInBounds 11 (.int .i64 x.2), defers := [] }
set_option maxHeartbeats 4000000 in
set_option maxRecDepth 100000 in
theorem follow_w (B A N m : Nat) (cv fv rv mv tv pv : Value) (d : AD) (st : List Bool × List Nat) (D0 : DI) (c : Nat) (hg : MGood d st) (hL : d.cells.length < 1000000) (hc : c < 5000000000000) (to_ : Nat → List Int) (tab : Nat → List (Int × Int)) (en : Nat → Int) (X : Nat → Prop) (k nb : Nat) (hk : d.cells[k]? = some (some nb)) (w : World) (hNw : N ≤ w.heap.size)
    (h : ArAt w B A cv fv rv d) (hN : ∀ j, AFoot A cv fv rv j → j < N) (hn : NodesT w d to_ tab en N X) (hm : MkW w N A m mv tv pv st.1 st.2 D0 c) :
    Calls Try.prog 37 #[.pointer (some ⟨m, 0, none⟩), .int .i64 ((k : Int) + 1)] w (fun e w' => e = .returned (.tuple #[]) ∧ TM N w w' ∧ ∃ tv' pv' D', MkW w' N A m mv tv' pv' ((tab nb).foldl (pairP d) ((to_ nb ++ wtOf D0 ((k : Int) + 1)).foldl (markP d) st, wtOf D0)).1.1 ((tab nb).foldl (pairP d) ((to_ nb ++ wtOf D0 ((k : Int) + 1)).foldl (markP d) st, wtOf D0)).1.2 D' (c + (tab nb).length) ∧ wtOf D' = ((tab nb).foldl (pairP d) ((to_ nb ++ wtOf D0 ((k : Int) + 1)).foldl (markP d) st, wtOf D0)).2) := by
  obtain ⟨zs, hzs⟩ : ∃ zs, wtOf D0 ((k : Int) + 1) = zs := ⟨_, rfl⟩
  rw [hzs]
  have HZS := Veil.mk hzs
  clear hzs
  have hkl := (List.getElem?_eq_some_iff.1 hk).1
  obtain ⟨a, na, ca, ta, nt, ct, fa, hnd⟩ := hn k nb hk
  obtain ⟨g, cap, rfl, hcell⟩ := cell_body h k hkl
  rw [hk] at hcell
  have hcell : w.cell? ⟨g, k, none⟩ = some (nodeV2 nb) := hcell
  obtain ⟨W1, hW1⟩ : ∃ W1, w.alloc (.cells #[.pointer (some ⟨m, 0, none⟩)] 65) = W1 := ⟨_, rfl⟩
  have hb1 : Below w.heap.size w W1 := by rw [← hW1]; exact (Below.refl _ _).alloc (Nat.le_refl _) _
  have hbN : Below N w W1 := hb1.mono hNw
  have bx1 : Box W1 w.heap.size 65 #[.pointer (some ⟨m, 0, none⟩)] := by rw [← hW1]; exact Box.new _ _ _
  have h1 := h.on hb1
  have m1 := hm.on hb1
  have n1 := hnd.onN hbN
  have g1 : W1.cell? ⟨g, k, none⟩ = some (nodeV2 nb) := by rw [hb1.cell (p := ⟨g, k, none⟩) (World.block_lt_of_cell? w _ hcell)]; exact hcell
  have c0 : W1.cell? ⟨w.heap.size, 0, none⟩ = some (.pointer (some ⟨m, 0, none⟩)) := bx1.at_ 0
  have c1 : W1.cell? ⟨m, 0, none⟩ = some (.pointer (some ⟨A, 0, none⟩)) := m1.mk_.box.at_ 0
  have c2 : W1.cell? ⟨A, 0, none⟩ = some (.slice (some ⟨g, 0, none⟩) d.cells.length cap) := h1.box.at_ 0
  have q1 : (k : Int) + 1 - 1 = (k : Int) := by omega
  have q2 : (0 : Int) ≤ (k : Int) := by omega
  have q3 : (k : Int) < (d.cells.length : Int) := by omega
  have q4 : (k : Int) < 1000000 := by omega
  have hkw : -9223372036854775808 ≤ (k : Int) + 1 ∧ (k : Int) + 1 ≤ 9223372036854775807 := by omega
  obtain ⟨b0, hb0⟩ : ∃ b0, w.heap.size = b0 := ⟨_, rfl⟩
  have hWs : W1.heap.size = b0 + 1 := by rw [← hW1, ← hb0]; simp
  have HW1 := Veil.mk hW1
  have hNb : N ≤ b0 := by omega
  rw [hb0] at bx1 c0
  have HST := Veil.mk (And.intro h1 (And.intro m1 (And.intro n1 (And.intro (And.intro (TM.of_below (N := N) hb1) hbN) bx1))))
  have HNN := Veil.mk (And.intro hN hNw)
  have HG := Veil.mk hg
  have HB0 := Veil.mk hb0
  have hll := n1.tab.1
  have HLT := Veil.mk n1.smallT
  have HIN : ∀ pre, pre <+: tab nb → pre.length ≤ 1000000 := fun pre hp => by
    have := hp.length_le
    have := n1.smallT
    omega
  have HIN := Veil.mk HIN
  clear h hm hnd hn hcell hW1 hb1 hbN bx1 h1 m1 n1 hN hg hk hkl hb0 hll
  refine (callsIn_wide (n := 6)).1 (callsIn_of_wp_marks Try.func37 rfl trivial (wpIn_wide.2 ?_) rfl)
  simp only [Try.ntmps37, List.size_toArray, List.length_cons, List.length_nil, Nat.reduceAdd, Nat.reduceSub, Array.replicate_succ, Array.replicate_zero, List.push_toArray, List.append_toArray, List.nil_append, List.cons_append]
  go_upto_region 1 with (fail)
  rw [HW1.out, HB0.out]
  go_wp2
  obtain ⟨s1, s2, s3, s4, s5⟩ := HST.out
  refine wpIn_wide.1 (wpIn_rangeFunc_read (n := 6) (by omega) (gf := 58) (la := #[.pointer (some ⟨nb, 0, none⟩)]) (lb := #[]) (tgt := .fn (.method "Each") #[]) (dargs := fun l => #[nodeV2 nb, .func (.yield l) #[] #[]]) (fun l W => method_resolve "Each" (nodeV2 nb) rfl l W) (fun l W => each_invoke nb l W) (encs := fun x : Int => #[.int .i64 x]) (F := InRow a) (S := fun xs => xs = to_ nb) (Sp := fun pre => pre <+: to_ nb) ?hF ?hseq (fun _ => rfl)
    (fun pre W => FolW N A m b0 mv (pre.foldl (markP d) st, wtOf D0) c W1 W) (fun _ _ _ => False) ?hI (fun _ _ _ _ h _ => h.elim) ⟨Below.refl _ _, s5, TM.refl _ _, tv, pv, D0, s2, rfl⟩ AxF (fun _ _ _ _ h _ => h) ?assign ?body ?done (fun _ _ _ _ _ _ h _ => h.elim))
  case hF => exact fun j hj => by have := (s3.rlow j (.inl hj)).1; omega
  case hseq =>
    intro W hb
    have n2 := s3.onN (hb.mono (by omega))
    exact each_stops 5 (by omega) nb a na ca (to_ nb) _ _ _ W n2.box n2.ints n2.small
  case hI => exact fun s A' B' h ht => h.touchL (by omega) (by omega) ht
  case assign =>
    intro l pre x W K hI hK
    gi_wp2
    exact hK _ _ (Touch.refl _ _) hI rfl
  case body =>
    rintro l pre x a' W ⟨i1, i2, i4, tv2, pv2, D2, i3, i5⟩ rfl hsp
    simp only [List.setIfInBounds_toArray, List.set_cons_zero, List.set_cons_succ]
    have hg2 := HG.out.marks pre
    have ha2 := s1.onN HNN.out.1 i1
    have x0 : W.cell? ⟨b0, 0, none⟩ = some (.pointer (some ⟨m, 0, none⟩)) := i2.at_ 0
    have HMK := Veil.mk (mark_wf B A N m (.slice (some ⟨g, 0, none⟩) d.cells.length cap) fv rv mv tv2 d _ _ D2 c hg2.len hg2.todo hL x W (by have := i1.size; omega) ha2 i3)
    have HI := Veil.mk (And.intro i1 (And.intro i2 (And.intro i4 (And.intro i3 i5))))
    clear s1 s2 s3 s4 s5 ha2 i1 i2 i3 i4 i5 hg2
    gi_wp2_with (first | (refine ⟨trivial, ?_⟩; gi_at_call 26; ((with_reducible refine ((callsIn_wide.2 HMK.out).inRound l).mono ?_); rintro e W' ⟨rfl, ht, tv3, hm3, -⟩)))
    obtain ⟨i1, i2, i4, i3, i5⟩ := HI.out
    refine ⟨ht.mono (fun j hj => ⟨fun hr => ?_, i3.mk_.cells' hj⟩), i1.trans (ht.below (by have := i1.size; omega) (fun j hj => MFoot.lt i3.mk_ hj)), ?_, i4.trans (TM.mark i3.mk_ ht), tv3, pv2, D2, by rw [List.foldl_append]; exact hm3, i5⟩
    · have h1 := MFoot.lt i3.mk_ hj
      have h2 := (HST.out.2.2.1.rlow j (.inl hr)).1
      omega
    · refine i2.touch ht (fun hj => ?_)
      rcases hj with hj | hj | hj
      · exact i2.lab.ne i3.mk_.box.lab (by decide) hj
      · exact i2.lab.ne (own_lab i3.mk_.mo b0 hj) (by decide) rfl
      · exact i2.lab.ne (own_lab i3.mk_.tq b0 hj) (by decide) rfl
  case done =>
    rintro D xs W hD rfl ⟨i1, i2, i4, tv2, pv2, D2, i3, i5⟩ hK
    have i5 : wtOf D2 = wtOf D0 := i5
    have x0 : W.cell? ⟨b0, 0, none⟩ = some (.pointer (some ⟨m, 0, none⟩)) := i2.at_ 0
    have x3 : W.cell? ⟨m, 3, none⟩ = some pv2 := i3.mk_.box.at_ 3
    obtain ⟨ao, cpz, zs', hlk, hwz, hzl, hzr, hzn⟩ := look_w i3 (by omega) ((k : Int) + 1) hkw
    obtain rfl : zs' = zs := by rw [← HZS.out, ← i5]; exact hwz.symm
    have hpa := pairs_assert nb
    have n2 := s3.onN i1
    have hzb : zs'.length < 10000000000000 := by omega
    have HI := Veil.mk (And.intro i1 (And.intro i2 (And.intro i3 (And.intro hK (And.intro n2 (And.intro i4 (And.intro i5 (And.intro hzr hzn))))))))
    clear s1 s2 s3 s4 s5 i1 i2 i3 i4 i5 hK n2 hzr hzn hwz
    go_wp2
    go_loopw [37] (fun i wr => ∃ j : Nat, j ≤ zs'.length ∧ i = .int .i64 (j : Int) ∧ wr.heap[D]? = some (.deferred (some [])) ∧ wr.ownsRow N 3 1 (.slice ao zs'.length cpz) zs'.length (intsV zs') ∧ Below N W1 wr ∧ Box wr b0 65 #[.pointer (some ⟨m, 0, none⟩)] ∧ TM N W1 wr ∧ ∃ tv', MkW wr N A m mv tv' pv2 ((to_ nb ++ zs'.take j).foldl (markP d) st).1 ((to_ nb ++ zs'.take j).foldl (markP d) st).2 D2 c ∧ ∀ g, (Value.slice ao zs'.length cpz).ownBlock = some g → tv'.ownBlock ≠ some g) (fun i _ => zs'.length - (intOf i).toNat)
    case atStart =>
      obtain ⟨i1, i2, i3, hK, n2, i4, i5, hzr, hzn⟩ := HI.out
      exact ⟨0, Nat.zero_le _, rfl, hK, hzr, i1, i2, i4, tv2, by rw [List.take_zero, List.append_nil]; exact i3, hzn⟩
    case round =>
      obtain ⟨j, hj, rfl, hKr, hzr, i1, i2, i4, tv3, i3, hzn⟩ := hrel
      have hj0 : (0 : Int) ≤ (j : Int) := by omega
      have hjb : (j : Int) < 10000000000000 := by omega
      by_cases hjl : j < zs'.length
      · have hjl' : (j : Int) < (zs'.length : Int) := by omega
        obtain ⟨z, hz⟩ : ∃ z, zs'[j]? = some z := ⟨_, List.getElem?_eq_getElem hjl⟩
        obtain ⟨_, _, e, _, hgz, _⟩ := slice_own hzr
        injection e with e1 e2 e3
        obtain ⟨gz, hgz⟩ := hgz (by omega)
        rw [← e1] at hgz
        subst hgz
        have z0 : wr.cell? ⟨gz, j, none⟩ = some (.int .i64 z) := by
          rw [hzr.cellAt j (by omega), List.getElem?_map, hz]
          rfl
        have y0 : wr.cell? ⟨b0, 0, none⟩ = some (.pointer (some ⟨m, 0, none⟩)) := i2.at_ 0
        have hg2 := HG.out.marks (to_ nb ++ zs'.take j)
        have HMK := Veil.mk (mark_wf B A N m (.slice (some ⟨g, 0, none⟩) d.cells.length cap) fv rv mv tv3 d _ _ D2 c hg2.len hg2.todo hL z wr (by have := i1.size; omega) (HST.out.1.onN HNN.out.1 i1) i3)
        have HT := Veil.mk (prefix_snoc zs' j z hz)
        have HR := Veil.mk (And.intro hKr (And.intro hzr (And.intro i1 (And.intro i2 (And.intro i4 (And.intro i3 hzn))))))
        clear hKr hzr i1 i2 i4 i3 hzn hg2 hz x0 x3 hlk e2 e3 e1
        go_wp2_with (first | (go_at_call 26; ((with_reducible refine HMK.out.mono ?_); rintro e W' ⟨rfl, ht, tv4, hm4, ho4⟩)))
        obtain ⟨hKr, hzr, i1, i2, i4, i3, hzn⟩ := HR.out
        have hzl4 := own_lt hzr
        go_round
        case rel =>
          refine ⟨j + 1, by omega, by go_num, (ht.block D (Array.getElem?_eq_some_iff.1 hKr).1 (fun hf => CelO.def hKr (i3.mk_.cells' hf) rfl)).trans hKr, own_touch hzr ht (fun q hq hf => ?_), i1.trans (ht.below (by have := i1.size; omega) (fun q hq => MFoot.lt i3.mk_ hq)), i2.touch ht (fun hq => ?_), i4.trans (TM.mark i3.mk_ ht), tv4, ?_, fun q hq hf => ?_⟩
          · rcases hf with hf | hf | hf
            · exact (own_lab hzr q hq).ne i3.mk_.box.lab (by decide) hf
            · exact (own_lab hzr q hq).ne (own_lab i3.mk_.mo q hf) (by decide) rfl
            · exact hzn q hq hf
          · rcases hq with hq | hq | hq
            · exact i2.lab.ne i3.mk_.box.lab (by decide) hq
            · exact i2.lab.ne (own_lab i3.mk_.mo b0 hq) (by decide) rfl
            · exact i2.lab.ne (own_lab i3.mk_.tq b0 hq) (by decide) rfl
          · rw [HT.out, ← List.append_assoc, List.foldl_append]
            exact hm4
          · rcases ho4 q hf with h5 | h5
            · exact hzn q hq h5
            · have := (hzl4 q hq).2
              omega
        case measure => simp [intOf]; omega
      obtain rfl : j = zs'.length := by omega
      have hjl' : ¬ (zs'.length : Int) < (zs'.length : Int) := by omega
      rw [List.take_length] at i3
      have n2 := HST.out.2.2.1.onN i1
      have HJ := Veil.mk (And.intro hKr (And.intro i1 (And.intro i2 (And.intro i4 (And.intro i3 n2)))))
      clear hKr hzr i1 i2 i4 i3 hzn n2 x0 x3 hlk
      go_wp2
      obtain ⟨hK, i1, i2, i4, i3, n2⟩ := HJ.out
      have hDl : D < wr.heap.size := (Array.getElem?_eq_some_iff.1 hK).1
      have i5 := HI.out.2.2.2.2.2.2.1
      refine wpIn_wide.1 (wpIn_rangeFunc_read (n := 6) (by omega) (gf := 59) (la := #[.pointer (some ⟨nb, 0, none⟩)]) (lb := #[]) (tgt := .fn (.method "Pairs") #[]) (dargs := fun l => #[nodeV2 nb, .func (.yield l) #[] #[]]) (fun l W => method_resolve "Pairs" (nodeV2 nb) rfl l W) (fun l W => pairs_invoke nb l W) (encs := fun x : Int × Int => #[.int .i64 x.1, .int .i64 x.2]) (F := InRow ta) (S := fun xs => xs = tab nb) (Sp := fun pre => pre <+: tab nb) ?hF2 ?hseq2 (fun _ => rfl)
        (fun pre W' => FolW N A m b0 mv (pre.foldl (pairP d) ((to_ nb ++ zs').foldl (markP d) st, wtOf D0)) (c + pre.length) W1 W' ∧ W'.heap[D]? = some (.deferred (some []))) (fun _ _ _ => False) ?hI2 (fun _ _ _ _ h _ => h.elim) ⟨⟨i1, i2, i4, tv3, pv2, D2, i3, i5⟩, hK⟩ AxP (fun _ _ _ _ h _ => h) ?assign2 ?body2 ?done2 (fun _ _ _ _ _ _ h _ => h.elim))
      case hF2 => exact fun j hj => by have := (n2.rlow j (.inr (.inl hj))).1; have := i1.size; omega
      case hseq2 =>
        intro W2 hb
        have n3 := n2.onN (hb.mono (by have := i1.size; omega))
        exact pairs_any 5 (by omega) nb ta nt ct (tab nb) _ _ _ W2 n3.box n3.tab n3.smallT
      case hI2 =>
        rintro s A' B' ⟨h, hk⟩ ht
        refine ⟨h.touchL (by have := i1.size; omega) (by omega) ht, (ht.block D (Array.getElem?_eq_some_iff.1 hk).1 ?_).trans hk⟩
        rintro ⟨-, o, ho⟩
        rw [hk] at ho
        cases ho
      case assign2 =>
        intro l pre x W2 K hI hK
        gi_wp2
        exact hK _ _ (Touch.refl _ _) hI rfl
      case body2 =>
        rintro l pre ⟨x1, x2⟩ a' W2 ⟨⟨j1, j2, j5, tv4, pv4, D4, j3, j6⟩, hK1⟩ rfl hsp
        simp only [List.setIfInBounds_toArray, List.set_cons_zero, List.set_cons_succ]
        have hg2 : MGood d (pre.foldl (pairP d) ((to_ nb ++ zs').foldl (markP d) st, wtOf D0)).1 := pairs_good pre _ (HG.out.marks _)
        have hpl := HIN.out _ hsp
        rw [List.length_append] at hpl
        have x0 : W2.cell? ⟨b0, 0, none⟩ = some (.pointer (some ⟨m, 0, none⟩)) := j2.at_ 0
        have hwf : -9223372036854775808 ≤ x2 ∧ x2 ≤ 9223372036854775807 := n2.wf (x1, x2) (hsp.subset (List.mem_append_right _ (List.mem_singleton.2 rfl)))
        have HPA := Veil.mk (pair_any B A N m (.slice (some ⟨g, 0, none⟩) d.cells.length cap) fv rv mv tv4 pv4 d _ _ D4 (c + pre.length) hg2 hL (by omega) x1 x2 hwf W2 (by have := j1.size; omega) (HST.out.1.onN HNN.out.1 j1) j3)
        have HI2 := Veil.mk (And.intro j1 (And.intro j2 (And.intro j5 (And.intro j3 (And.intro j6 hK1)))))
        have HN2 := Veil.mk n2
        clear j1 j2 j5 j3 j6 hK1 n2 i1 i2 i3 i4 i5 hK hg2 hpl hwf
        gi_wp2_with (first | (refine ⟨trivial, ?_⟩; gi_at_call 41; ((with_reducible refine ((callsIn_wide.2 HPA.out).inRound l).mono ?_); rintro e W' ⟨rfl, ht, htm, tv5, pv5, D5, hm5, hw5⟩)))
        obtain ⟨j1, j2, j5, j3, j6, hK1⟩ := HI2.out
        refine ⟨ht.mono (fun j hj => ⟨fun hr => ?_, hj.2⟩), ⟨j1.trans (ht.below (by have := j1.size; omega) (fun j hj => hj.1)), ?_, j5.trans htm, tv5, pv5, D5, ?_, ?_⟩, (ht.block D (Array.getElem?_eq_some_iff.1 hK1).1 (fun hf => CelO.def hK1 hf.2 rfl)).trans hK1⟩
        · have h2 := (HN2.out.rlow j (.inr (.inl hr))).1
          omega
        · exact htm.box j2
        · rw [List.foldl_append, List.length_append]
          rw [j6] at hm5
          exact hm5
        · rw [List.foldl_append]
          rw [j6] at hw5
          exact hw5
      case done2 =>
        rintro D2' ys W2 hD2 rfl ⟨⟨j1, j2, j5, tv4, pv4, D4, j3, j6⟩, hK1⟩ hK2
        have hne : D ≠ D2' := by omega
        have t1 := put_def W2 D2' (.deferred none)
        have hK3 : (W2.putObj D2' (.deferred none)).heap[D]? = some (.deferred (some [])) := (World.putObj_heap_other hne).trans hK1
        have t2 := put_def (W2.putObj D2' (.deferred none)) D (.deferred none)
        have j4 := (j3.touchC t1 (fun j hj => hj.def hK2)).touchC t2 (fun j hj => hj.def hK3)
        have hbel : TM N w ((W2.putObj D2' (.deferred none)).putObj D (.deferred none)) := ((HST.out.2.2.2.1.1.trans j5).trans (TM.of t1 (fun k hk => by have := i1.size; omega) (fun k hk hl => def_lab hK2 k _ hl hk))).trans (TM.of t2 (fun k hk => by omega) (fun k hk hl => def_lab hK3 k _ hl hk))
        have HE := Veil.mk (And.intro j4 (And.intro hbel j6))
        clear j1 j2 j3 j4 j5 j6 hbel t1 t2 i1 i2 i3 i4 i5 n2
        go_wp2
        refine ⟨by simp, .inl ⟨_, _, rfl, run_takeDeferred hK2, by simp, .inl ⟨_, _, rfl, run_takeDeferred hK3, ?_⟩⟩⟩
        exact ⟨_, results_none rfl _ _ _, rfl, HE.out.2.1, tv4, pv4, D4, HE.out.1, HE.out.2.2⟩
end Go.Proofs.Ytkkbfadfgdjkdaa
