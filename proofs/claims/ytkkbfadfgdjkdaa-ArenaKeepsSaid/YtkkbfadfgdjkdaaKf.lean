/- ArenaKeeps: the state within a step that makes a cell. -/
import Derived.Test.YtkkbfadfgdjkdaaKe
namespace Go.Proofs.Ytkkbfadfgdjkdaa
open Go Go.RowKit

/-- Make leaves the free ones and the roots as values. -/
def ArPostR (B A : Nat) (d : AD) (fv rv : Value) (F : Nat → Prop) (w w' : World) : Prop := ∃ cv, ArAt w' B A cv fv rv d ∧ Touch F w w' ∧ ∀ k, AFoot A cv fv rv k → F k ∨ w.heap.size ≤ k
def MkPostR (B A : Nat) (d : AD) (nb : Nat) (fv rv : Value) (F : Nat → Prop) (w : World) (e : Ending) (w' : World) : Prop := e = .returned (.int .i64 ((d.mk2 nb).2 : Int)) ∧ ArPostR B A (d.mk2 nb).1 fv rv F w w'
set_option maxHeartbeats 2000000 in
set_option maxRecDepth 100000 in
theorem make_newR (B A : Nat) (cv fv rv : Value) (d : AD) (nb : Nat) (w : World) (h : ArAt w B A cv fv rv d) (hf : d.free = []) (hc : d.count < 4194304) (hl : d.cells.length < 1000000) :
    Calls Try.prog 10 #[.pointer (some ⟨A, 0, none⟩), nodeV nb] w (MkPostR B A d nb fv rv (AFoot A cv fv rv) w) := by
  obtain ⟨i0, hi, hz0, hz1, hz2⟩ := info_parts Try.infoB
  obtain ⟨ao, cap, rfl, hcap, hgc, hmc⟩ := slice_own h.co
  obtain ⟨ao1, cap1, rfl, -, -, -⟩ := slice_own h.fo
  have c1 : w.cell? ⟨A, 1, none⟩ = some (.slice ao1 0 cap1) := by rw [h.box.at_ 1, hf]; rfl
  have c2 : w.cell? ⟨A, 2, none⟩ = some (.int .i64 (d.count : Int)) := h.box.at_ 2
  have c2f := h.box.free 2
  have hn := nodeV_eql nb
  have hge : ((d.count : Int) ≥ 4194304) = False := by simp; omega
  have hge2 : ¬ (4194304 : Int) ≤ (d.count : Int) := by omega
  have hc0 : (0 : Int) ≤ (d.count : Int) := by omega
  have hc1 : (d.count : Int) < 4194304 := by omega
  have H := Veil.mk h
  have HM : Veil (MkPostR B A d nb (.slice ao1 d.free.length cap1) rv = fun F w e w' => e = .returned (.int .i64 ((d.cells.length : Int) + 1)) ∧ ArPostR B A ⟨d.cells ++ [some nb], d.free, d.count + 1, d.roots⟩ (.slice ao1 d.free.length cap1) rv F w w') := ⟨by
    funext F w e w'
    unfold MkPostR AD.mk2
    rw [hf]
    rfl⟩
  rw [HM.out]
  have HF := Veil.mk hf
  clear h hge hf
  go_enter Try.func10, Try.ntmps10
  go_upto_region 4 with (fail)
  have h1 := H.out.put2 (d.count + 1)
  have t1 : Touch (fun k => k = A) w (w.setCell ⟨A, 2, none⟩ (.int .i64 ((d.count + 1 : Nat) : Int))) := Touch.put (S := fun k => k = A) rfl _ _
  rw [show ((d.count + 1 : Nat) : Int) = (d.count : Int) + 1 by omega] at h1 t1
  generalize w.setCell ⟨A, 2, none⟩ (.int .i64 ((d.count : Int) + 1)) = W at h1 t1 ⊢
  have d1 : W.cell? ⟨A, 1, none⟩ = some (.slice ao1 0 cap1) := by rw [h1.box.at_ 1]; show some (Value.slice ao1 d.free.length cap1) = _; rw [HF.out]; rfl
  have d0 : W.cell? ⟨A, 0, none⟩ = some (.slice ao d.cells.length cap) := h1.box.at_ 0
  have d0f := h1.box.free 0
  have hBs : B ≤ W.heap.size := by have := h1.ha; have := h1.box.lt; omega
  have hap := h1.box.apart h1.co (by decide)
  have tl2 : A < W.heap.size := h1.box.lt
  have hco : W.ownsRow B 51 1 (.slice ao d.cells.length cap) d.cells.length (d.cells.map bodyV) := h1.co
  clear c1 c2 c2f
  go_wp2_with (at_builtin; go_loud (refine wpList_append_lies _ rfl _ _ 62 rfl B 51 i0 .nilIface 1 16 Try.underlying62 hi hz0 hz1 hz2 rfl (by decide) _ _ _ rfl (hco.alloc _) ⟨W.heap.size, 0, none⟩ 1 1 [nodeV nb] rfl rfl (news_at _ _ rfl _ _) (by simp [Value.oneCell']) (by decide) (by unfold maxLen; omega) (by omega) (by simp; omega) _ rfl ?_); intro g cap' w3 hown' hgrow3 hblk hg3; have hx3 : Box w3 A _ _ := (h1.box.more _).grown hgrow3 hap; have e12 : w3.cell? ⟨A, 0, none⟩ = some (.slice ao d.cells.length cap) := hx3.at_ 0; have e13 := hx3.free 0; refine Hid.out ?_)
  have hgrow : (W.alloc (.cells #[nodeV nb] 51)).grownBy w3 (Value.slice ao d.cells.length cap).ownBlock := hgrow3
  have hblk' : (Value.slice ao d.cells.length cap).ownBlock = some g ∨ g = (W.alloc (.cells #[nodeV nb] 51)).heap.size := hblk
  have ht : Touch (fun k => (Value.slice ao d.cells.length cap).ownBlock = some k) W w3 := (Touch.of_below ((Below.refl W.heap.size W).alloc (Nat.le_refl _) (.cells #[nodeV nb] 51))).trans (Touch.of_grown hgrow (fun k hk => hk))
  have lc := own_lab h1.co
  have f3 := own_touch h1.fo ht (fun k hk e => (lc k e).ne (own_lab h1.fo k hk) (by decide) rfl)
  have r3 := own_touch h1.ro ht (fun k hk e => (lc k e).ne (own_lab h1.ro k hk) (by decide) rfl)
  have tp : Touch (fun k => k = A) w3 (w3.setCell ⟨A, 0, none⟩ (.slice (some ⟨g, 0, none⟩) (d.cells.length + 1) cap')) := Touch.put (S := fun k => k = A) rfl _ _
  have hnew : w3.ownsRow B 51 1 (.slice (some ⟨g, 0, none⟩) (d.cells.length + 1) cap') (d.cells ++ [some nb]).length ((d.cells ++ [some nb]).map bodyV) := by
    rw [List.length_append, List.map_append]
    exact hown'
  have hD : ArPostR B A ⟨d.cells ++ [some nb], d.free, d.count + 1, d.roots⟩ (.slice ao1 d.free.length cap1) rv (AFoot A (.slice ao d.cells.length cap) (.slice ao1 d.free.length cap1) rv) w (w3.setCell ⟨A, 0, none⟩ (.slice (some ⟨g, 0, none⟩) (d.cells.length + 1) cap')) := by
    refine ⟨_, ⟨hx3.put 0 _, own_touch hnew tp (fun k hk e => ((own_lab hnew k hk).ne hx3.lab (by decide)) e), own_touch f3 tp (fun k hk e => ((own_lab f3 k hk).ne hx3.lab (by decide)) e), own_touch r3 tp (fun k hk e => ((own_lab r3 k hk).ne hx3.lab (by decide)) e), h1.ap, h1.ha⟩, ?_, ?_⟩
    · exact (t1.mono (fun k hk => .inl hk)).trans ((ht.mono (fun k hk => .inr (.inl hk))).trans (tp.mono (fun k hk => .inl hk)))
    · rintro k (hk | hk | hk | hk)
      · exact .inl (.inl hk)
      · cases hk
        rcases hblk' with hb | hb
        · exact .inl (.inr (.inl hb))
        · have := t1.size
          refine .inr ?_
          show w.heap.size ≤ g
          rw [hb, World.size_alloc]
          omega
      · exact .inl (.inr (.inr (.inl hk)))
      · exact .inl (.inr (.inr (.inr hk)))
  have HD := Veil.mk hD
  clear hD ht hblk' hgrow hgrow3 hblk hown' h1 hap f3 r3 tp hnew
  refine Lib.hid ?_
  go_upto_region 11 with (fail)
  have x0 : (w3.setCell ⟨A, 0, none⟩ (.slice (some ⟨g, 0, none⟩) (d.cells.length + 1) cap')).cell? ⟨A, 0, none⟩ = some (.slice (some ⟨g, 0, none⟩) (d.cells.length + 1) cap') := (hx3.put 0 _).at_ 0
  generalize w3.setCell ⟨A, 0, none⟩ (.slice (some ⟨g, 0, none⟩) (d.cells.length + 1) cap') = W5 at HD x0 ⊢
  clear hx3 e12 e13 d0 d0f d1
  go_wp2
  go_ret
  exact ⟨rfl, HD.out⟩
/-- Within a step: p is filled, and as far as told in the arenas and in the list. -/
structure Mid (A bb mb z : Nat) (ps : List PI) (p : PI) (pb : Nat) (xs ys : List Nat) (rr : Int) (cv fv rv Lv lv : Value) (w : World) : Prop where
  ar : ArAt w A A cv fv rv (dN xs [])
  fil : ∀ q ∈ ps ++ [p], A ≤ q.x ∧ A ≤ q.y ∧ Filled A q.x q.y q.L q.T q.G (.int .i64 0) q.vs w ∧ q.L.length ≤ 2000 ∧ q.T.length ≤ 2000 ∧ q.G.length ≤ 2000 ∧ ∀ t ∈ q.T, -9223372036854775808 ≤ t.2 ∧ t.2 ≤ 9223372036854775807
  nax : ∀ q ∈ ps ++ [p], ∀ i b, (q.vs i).ownBlock = some b → ¬ AFoot A cv fv rv b
  bx : Box w bb 46 #[.pointer (some ⟨A, 0, none⟩), .pointer (some ⟨mb, 0, none⟩), lv]
  mx : Box w mb 43 #[Lv, .slice none 0 0, .slice none 0 0]
  rl : RL w A Lv ys
  ll : w.ownsRow A 73 3 lv ps.length (flat3 ps)
  bge : A ≤ bb ∧ A ≤ mb
  pbx : Box w pb 73 #[.int .i64 rr, .pointer (some ⟨p.x, 0, none⟩), .pointer (some ⟨p.y, 0, none⟩)]
  pbz : z ≤ pb ∧ A ≤ pb
  lvz : ∀ k, lv.ownBlock = some k → k < z
section
variable {A bb mb z : Nat} {ps : List PI} {p : PI} {pb : Nat} {xs ys : List Nat} {rr : Int} {cv fv rv Lv lv : Value} {w w' : World}
theorem Mid.ge (h : Mid A bb mb z ps p pb xs ys rr cv fv rv Lv lv w) : A ≤ w.heap.size := by have := h.ar.ha; have := h.ar.box.lt; omega
theorem Mid.on (h : Mid A bb mb z ps p pb xs ys rr cv fv rv Lv lv w) (hb : Below w.heap.size w w') : Mid A bb mb z ps p pb xs ys rr cv fv rv Lv lv w' :=
  ⟨h.ar.on hb, fun q hq => ⟨(h.fil q hq).1, (h.fil q hq).2.1, (h.fil q hq).2.2.1.on hb, (h.fil q hq).2.2.2⟩, h.nax, h.bx.below hb, h.mx.below hb, h.rl.touch (S := fun _ => False) (Touch.of_below hb) (fun _ _ h => h), own_below h.ll hb, h.bge, h.pbx.below hb, h.pbz, h.lvz⟩
/-- A change that hits blocks of one kind alone, which no body and no row of a body is. -/
theorem Filled.kind {B x y : Nat} {L : List Int} {T : List (Int × Int)} {G : List Int} {ev : Value} {vs : Fin 6 → Value} {S : Nat → Prop} (h : Filled B x y L T G ev vs w) (ht : Touch S w w') (hS : ∀ k, S k → ∃ e, Lab w k e ∧ e ≠ 30 ∧ e ≠ 71 ∧ e ≠ 3 ∧ e ≠ 32) : Filled B x y L T G ev vs w' := by
  refine h.touch ht (fun hs => ?_) (fun hs => ?_) (fun i b hb hs => ?_)
  · obtain ⟨e, h1, h2, h3, h4, h5⟩ := hS x hs
    exact h1.ne h.bx.lab h2 rfl
  · obtain ⟨e, h1, h2, h3, h4, h5⟩ := hS y hs
    exact h1.ne h.by_.lab h3 rfl
  · obtain ⟨e, h1, h2, h3, h4, h5⟩ := hS b hs
    obtain ⟨e', sz, n, xs, ho, he⟩ := h.own i
    rcases he with rfl | rfl
    · exact h1.ne (own_lab ho b hb) h4 rfl
    · exact h1.ne (own_lab ho b hb) h5 rfl
theorem Mid.make (h : Mid A bb mb z ps p pb xs ys rr cv fv rv Lv lv w) (hl : xs.length < 1000) :
    Calls Try.prog 10 #[.pointer (some ⟨A, 0, none⟩), nodeV p.x] w fun e w' => e = .returned (.int .i64 ((xs.length + 1 : Nat) : Int)) ∧ Below A w w' ∧ ∃ cv', Mid A bb mb z ps p pb (xs ++ [p.x]) ys rr cv' fv rv Lv lv w' := by
  refine (make_newR A A cv fv rv (dN xs []) p.x w h.ar rfl (by show xs.length < 4194304; omega) (by show (xs.map some).length < 1000000; rw [List.length_map]; omega)).mono ?_
  rintro e w3 ⟨rfl, cv', p1, p2, p3⟩
  rw [dN_mk2] at p1 ⊢
  have nl : ∀ {k e}, Lab w k e → e ≠ 64 → e ≠ 51 → e ≠ 3 → ¬ AFoot A cv fv rv k := fun hl a b c => AFoot.lab h.ar hl a b c
  refine ⟨rfl, p2.below h.ge (fun k hk => (AFoot.lt h.ar hk).1), cv', p1, fun q hq => ?_, fun q hq i b hb hf => ?_, h.bx.touch p2 (nl h.bx.lab (by decide) (by decide) (by decide)), h.mx.touch p2 (nl h.mx.lab (by decide) (by decide) (by decide)), h.rl.touch p2 (fun k hk => nl (h.rl.own hk).2.2 (by decide) (by decide) (by decide)), own_touch h.ll p2 (fun k hk => nl (own_lab h.ll k hk) (by decide) (by decide) (by decide)), h.bge, h.pbx.touch p2 (nl h.pbx.lab (by decide) (by decide) (by decide)), h.pbz, h.lvz⟩
  · obtain ⟨a1, a2, a3, a4⟩ := h.fil q hq
    exact ⟨a1, a2, a3.touch p2 (nl a3.bx.lab (by decide) (by decide) (by decide)) (nl a3.by_.lab (by decide) (by decide) (by decide)) (h.nax q hq), a4⟩
  · rcases p3 b hf with h5 | h5
    · exact h.nax q hq i b hb h5
    · obtain ⟨e', sz, n, xs', ho, he⟩ := (h.fil q hq).2.2.1.own i
      have := (own_lt ho b hb).2
      omega
theorem Mid.setr (h : Mid A bb mb z ps p pb xs ys rr cv fv rv Lv lv w) (r : Int) : Below A w (w.setCell ⟨pb, 0, none⟩ (.int .i64 r)) ∧ Mid A bb mb z ps p pb xs ys r cv fv rv Lv lv (w.setCell ⟨pb, 0, none⟩ (.int .i64 r)) := by
  have tp : Touch (fun k => k = pb) w (w.setCell ⟨pb, 0, none⟩ (.int .i64 r)) := Touch.put (S := fun k => k = pb) rfl _ _
  have lp := h.pbx.lab
  refine ⟨tp.below h.ge (fun k hk => by rw [hk]; exact h.pbz.2), h.ar.touch tp (fun k hk e => AFoot.lab h.ar lp (by decide) (by decide) (by decide) (e ▸ hk)), fun q hq => ?_, h.nax, h.bx.touch tp (fun e => h.bx.lab.ne lp (by decide) e), h.mx.touch tp (fun e => h.mx.lab.ne lp (by decide) e), h.rl.touch tp (fun k hk e => (h.rl.own hk).2.2.ne lp (by decide) e), own_touch h.ll tp (fun k hk e => by have := h.lvz k hk; have := h.pbz.1; omega), h.bge, h.pbx.put 0 _, h.pbz, h.lvz⟩
  obtain ⟨a1, a2, a3, a4⟩ := h.fil q hq
  exact ⟨a1, a2, a3.kind tp (fun k hk => ⟨73, by rw [hk]; exact lp, by decide, by decide, by decide, by decide⟩), a4⟩
theorem Mid.refm (h : Mid A bb mb z ps p pb xs ys rr cv fv rv Lv lv w) (hl : ys.length < 1000) :
    Calls Try.prog 32 #[.pointer (some ⟨mb, 0, none⟩), .pointer (some ⟨p.y, 0, none⟩)] w fun e w' => e = .returned (.int .i64 ((ys.length + 1 : Nat) : Int)) ∧ Below A w w' ∧ ∃ Lv', Mid A bb mb z ps p pb xs (ys ++ [p.y]) rr cv fv rv Lv' lv w' := by
  refine (refmake_any A mb p.y Lv ys hl w h.ge h.mx h.rl).mono ?_
  rintro e w3 ⟨rfl, Lv', q1, q2, q3, q4⟩
  have lab : ∀ k, (k = mb ∨ Lv.ownBlock = some k) → Lab w k 43 ∨ Lab w k 70 := fun k hk => by
    rcases hk with rfl | hk
    · exact .inl h.mx.lab
    · exact .inr (h.rl.own hk).2.2
  have nk : ∀ {k e}, Lab w k e → e ≠ 43 → e ≠ 70 → ¬ (k = mb ∨ Lv.ownBlock = some k) := fun hl a b hk => by
    rcases lab _ hk with h5 | h5
    · exact hl.ne h5 a rfl
    · exact hl.ne h5 b rfl
  refine ⟨rfl, q3.below h.ge (fun k hk => by
    rcases hk with rfl | hk
    · exact h.bge.2
    · exact (h.rl.own hk).1), Lv', h.ar.touch q3 (fun k hk hs => ?_), fun q hq => ?_, h.nax, h.bx.touch q3 (nk h.bx.lab (by decide) (by decide)), q1, q2, own_touch h.ll q3 (fun k hk => nk (own_lab h.ll k hk) (by decide) (by decide)), h.bge, h.pbx.touch q3 (nk h.pbx.lab (by decide) (by decide)), h.pbz, h.lvz⟩
  · rcases lab k hs with h5 | h5
    · exact AFoot.lab h.ar h5 (by decide) (by decide) (by decide) hk
    · exact AFoot.lab h.ar h5 (by decide) (by decide) (by decide) hk
  · obtain ⟨a1, a2, a3, a4⟩ := h.fil q hq
    exact ⟨a1, a2, a3.kind q3 (fun k hk => (lab k hk).elim (fun h5 => ⟨_, h5, by decide, by decide, by decide, by decide⟩) (fun h5 => ⟨_, h5, by decide, by decide, by decide, by decide⟩)), a4⟩
/-- The list has it, too. -/
theorem Mid.done (h : Mid A bb mb z ps p pb (ps.map PI.x ++ [p.x]) (ps.map PI.y ++ [p.y]) rr cv fv rv Lv lv w) (hr : p.r = rr) {w2 w3 : World} {g cap : Nat} (hb : Below w.heap.size w w2) (ho : w3.ownsRow A 73 3 (.slice (some ⟨g, 0, none⟩) (ps.length + 1) cap) (ps.length + 1) (flat3 ps ++ [.int .i64 rr, .pointer (some ⟨p.x, 0, none⟩), .pointer (some ⟨p.y, 0, none⟩)]))
    (hg : (w2.alloc (.cells #[.int .i64 rr, .pointer (some ⟨p.x, 0, none⟩), .pointer (some ⟨p.y, 0, none⟩)] 73)).grownBy w3 lv.ownBlock) :
    Below A w (w3.setCell ⟨bb, 2, none⟩ (.slice (some ⟨g, 0, none⟩) (ps.length + 1) cap)) ∧ KS A bb mb (ps ++ [p]) cv fv rv Lv (.slice (some ⟨g, 0, none⟩) (ps.length + 1) cap) (w3.setCell ⟨bb, 2, none⟩ (.slice (some ⟨g, 0, none⟩) (ps.length + 1) cap)) := by
  have ht1 : Touch (fun b => lv.ownBlock = some b) w w3 := (Touch.of_below (hb.alloc hb.size _)).trans (Touch.of_grown hg (fun b hb => hb))
  have tp : Touch (fun k => k = bb) w3 (w3.setCell ⟨bb, 2, none⟩ (.slice (some ⟨g, 0, none⟩) (ps.length + 1) cap)) := Touch.put (S := fun k => k = bb) rfl _ _
  have tt : Touch (fun k => lv.ownBlock = some k ∨ k = bb) w (w3.setCell ⟨bb, 2, none⟩ (.slice (some ⟨g, 0, none⟩) (ps.length + 1) cap)) := (ht1.mono (fun k hk => .inl hk)).trans (tp.mono (fun k hk => .inr hk))
  have lab : ∀ k, (lv.ownBlock = some k ∨ k = bb) → Lab w k 73 ∨ Lab w k 46 := fun k hk => by
    rcases hk with hk | rfl
    · exact .inl (own_lab h.ll k hk)
    · exact .inr h.bx.lab
  have nk : ∀ {k e}, Lab w k e → e ≠ 73 → e ≠ 46 → ¬ (lv.ownBlock = some k ∨ k = bb) := fun hl a b hk => by
    rcases lab _ hk with h5 | h5
    · exact hl.ne h5 a rfl
    · exact hl.ne h5 b rfl
  have bx3 := h.bx.touch ht1 (fun hk => (own_lab h.ll bb hk).ne h.bx.lab (by decide) rfl)
  refine ⟨tt.below h.ge (fun k hk => ?_), h.ar.touch tt (fun k hk hs => ?_) |> (fun x => by rw [List.map_append]; exact x), fun q hq => ?_, h.nax, bx3.put 2 _, h.mx.touch tt (nk h.mx.lab (by decide) (by decide)), by rw [List.map_append]; exact h.rl.touch tt (fun k hk => nk (h.rl.own hk).2.2 (by decide) (by decide)), ?_, h.bge⟩
  · rcases hk with hk | rfl
    · exact (own_lt h.ll k hk).1
    · exact h.bge.1
  · rcases lab k hs with h5 | h5
    · exact AFoot.lab h.ar h5 (by decide) (by decide) (by decide) hk
    · exact AFoot.lab h.ar h5 (by decide) (by decide) (by decide) hk
  · obtain ⟨a1, a2, a3, a4⟩ := h.fil q hq
    exact ⟨a1, a2, a3.kind tt (fun k hk => (lab k hk).elim (fun h5 => ⟨_, h5, by decide, by decide, by decide, by decide⟩) (fun h5 => ⟨_, h5, by decide, by decide, by decide, by decide⟩)), a4⟩
  · rw [flat3_snoc, hr, List.length_append]
    exact own_touch ho tp (fun k hk e => (own_lab ho k hk).ne bx3.lab (by decide) e)
end
end Go.Proofs.Ytkkbfadfgdjkdaa
