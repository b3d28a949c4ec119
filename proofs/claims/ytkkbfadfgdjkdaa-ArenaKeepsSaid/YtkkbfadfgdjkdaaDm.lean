/- Package arena: an arena with its nodes, their tables and faint ones; Collect. -/
import Derived.Test.YtkkbfadfgdjkdaaDl
import Derived.Test.YtkkbfadfgdjkdaaAs
namespace Go.Proofs.Ytkkbfadfgdjkdaa
open Go Go.RowKit

structure SysT (B A : Nat) (d : AD) (to_ : Nat → List Int) (tab : Nat → List (Int × Int)) (en : Nat → Int) (cv fv rv : Value) (w : World) : Prop where
  ar : ArAt w B A cv fv rv d
  nodes : NodesT w d to_ tab en w.heap.size (AFoot A cv fv rv)
  low : ∀ (k nb : Nat), d.cells[k]? = some (some nb) → B ≤ nb
theorem SysT.below {B A : Nat} {d : AD} {to_ : Nat → List Int} {tab : Nat → List (Int × Int)} {en : Nat → Int} {cv fv rv : Value} {w w' : World} (h : SysT B A d to_ tab en cv fv rv w) (hb : Below w.heap.size w w') : SysT B A d to_ tab en cv fv rv w' := ⟨h.ar.on hb, fun k nb hk => by
    obtain ⟨a, na, ca, ta, nt, ct, fv, hx⟩ := h.nodes k nb hk
    exact ⟨a, na, ca, ta, nt, ct, fv, (hx.onN hb).bigger hb.size⟩, h.low⟩
theorem NodeT.turn {w w' : World} {nb : Nat} {L : List Int} {T : List (Int × Int)} {en : Int} {A : Nat} {cv fv rv cv' fv' rv' : Value} {a ta : Option Addr} {na ca nt ct B : Nat} {fa : Value} {d : AD} (h : NodeT w nb L T en w.heap.size (AFoot A cv fv rv) a na ca ta nt ct fa) (har : ArAt w B A cv fv rv d) (ht : Touch (AFoot A cv fv rv) w w') (ho : ∀ k, AFoot A cv' fv' rv' k → AFoot A cv fv rv k ∨ w.heap.size ≤ k) :
    NodeT w' nb L T en w'.heap.size (AFoot A cv' fv' rv') a na ca ta nt ct fa := by
  have h1 := (h.touch ht (AFoot.lab har h.box.lab (by decide) (by decide) (by decide)) (fun b hb => (h.rlow b hb).2.1)).bigger ht.size
  refine ⟨h1.box, h1.ints, h1.tab, h1.small, h1.smallT, h1.wf, h1.low, fun b hb => ?_, h1.faint⟩
  obtain ⟨q1, q2, q3⟩ := h1.rlow b hb
  refine ⟨q1, fun hf => ?_, q3⟩
  rcases ho b hf with h2 | h2
  · exact q2 h2
  · have := (h.rlow b hb).1
    omega
/-- What a call did to an arena: its nodes lie as they lay. -/
structure SysTPost (B A : Nat) (d : AD) (to_ : Nat → List Int) (tab : Nat → List (Int × Int)) (en : Nat → Int) (cv fv rv : Value) (w : World) (cv' fv' rv' : Value) (w' : World) : Prop where
  sys : SysT B A d to_ tab en cv' fv' rv' w'
  touch : Touch (AFoot A cv fv rv) w w'
  own : ∀ k, AFoot A cv' fv' rv' k → AFoot A cv fv rv k ∨ w.heap.size ≤ k
theorem SysT.post {B A : Nat} {d d' : AD} {to_ : Nat → List Int} {tab : Nat → List (Int × Int)} {en : Nat → Int} {cv fv rv : Value} {w w' : World} (hs : SysT B A d to_ tab en cv fv rv w) (hp : ArPost B A d' (AFoot A cv fv rv) w w')
    (hc : ∀ (k nb : Nat), d'.cells[k]? = some (some nb) → B ≤ nb ∧ ∃ a na ca ta nt ct fa, NodeT w nb (to_ nb) (tab nb) (en nb) w.heap.size (AFoot A cv fv rv) a na ca ta nt ct fa) : ∃ cv' fv' rv', SysTPost B A d' to_ tab en cv fv rv w cv' fv' rv' w' := by
  obtain ⟨cv', fv', rv', h1, h2, h3⟩ := hp
  refine ⟨cv', fv', rv', ⟨h1, fun k nb hk => ?_, fun k nb hk => (hc k nb hk).1⟩, h2, h3⟩
  obtain ⟨-, a, na, ca, ta, nt, ct, fa, hx⟩ := hc k nb hk
  exact ⟨a, na, ca, ta, nt, ct, fa, hx.turn hs.ar h2 h3⟩
theorem sysT_make {B A : Nat} {d : AD} {to_ : Nat → List Int} {tab : Nat → List (Int × Int)} {en : Nat → Int} {cv fv rv : Value} {w : World} (hs : SysT B A d to_ tab en cv fv rv w) (nb : Nat) {a ta : Option Addr} {na ca nt ct : Nat} {fa : Value} (hx : NodeT w nb (to_ nb) (tab nb) (en nb) w.heap.size (AFoot A cv fv rv) a na ca ta nt ct fa) (hB : B ≤ nb) (hf : FreeOk d) (hc : d.count < 4194304) (hl : d.cells.length < 1000000) (hfl : d.free.length < 1000000) :
    Calls Try.prog 10 #[.pointer (some ⟨A, 0, none⟩), nodeV nb] w fun e w' => e = .returned (.int .i64 ((d.mk2 nb).2 : Int)) ∧ ∃ cv' fv' rv', SysTPost B A (d.mk2 nb).1 to_ tab en cv fv rv w cv' fv' rv' w' := by
  have hm : Calls Try.prog 10 #[.pointer (some ⟨A, 0, none⟩), nodeV nb] w (MkPost B A d nb (AFoot A cv fv rv) w) := by
    rcases hf with h | ⟨f, r, h, hr⟩
    · exact make_new B A cv fv rv d nb w hs.ar h hc hl
    · exact make_old B A cv fv rv d nb w hs.ar f r h hr hc hl hfl
  refine hm.mono ?_
  rintro e w' ⟨h1, h2⟩
  refine ⟨h1, hs.post h2 (fun k nb' hk => ?_)⟩
  rcases mk2_cells hk with rfl | h3
  · exact ⟨hB, a, na, ca, ta, nt, ct, fa, hx⟩
  · exact ⟨hs.low k nb' h3, hs.nodes k nb' h3⟩
theorem sysT_push {B A : Nat} {d : AD} {to_ : Nat → List Int} {tab : Nat → List (Int × Int)} {en : Nat → Int} {cv fv rv : Value} {w : World} (hs : SysT B A d to_ tab en cv fv rv w) (x : Nat) (r : Int) (hx : w.cell? ⟨x, 0, none⟩ = some (.int .i64 r)) (hl : d.roots.length < 1000000) :
    Calls Try.prog 11 #[.pointer (some ⟨A, 0, none⟩), .slice (some ⟨x, 0, none⟩) 1 1] w fun e w' => e = .returned (.tuple #[]) ∧ ∃ cv' fv' rv', SysTPost B A (d.pushed r) to_ tab en cv fv rv w cv' fv' rv' w' :=
  (push_one B A cv fv rv d x r w hs.ar hx hl).mono fun _ _ h => ⟨h.1, hs.post h.2 (fun k nb hk => ⟨hs.low k nb hk, hs.nodes k nb hk⟩)⟩
theorem sysT_pop {B A : Nat} {d : AD} {to_ : Nat → List Int} {tab : Nat → List (Int × Int)} {en : Nat → Int} {cv fv rv : Value} {w : World} (hs : SysT B A d to_ tab en cv fv rv w) (k : Nat) (hk : k ≤ d.roots.length) (hp : 0 < d.roots.length) (hl : d.roots.length < 1000000) :
    Calls Try.prog 18 #[.pointer (some ⟨A, 0, none⟩), .int .i64 (k : Int)] w fun e w' => e = .returned (.tuple #[]) ∧ ∃ cv' fv' rv', SysTPost B A (d.popped k) to_ tab en cv fv rv w cv' fv' rv' w' :=
  (pop_any B A cv fv rv d k hk hp hl w hs.ar).mono fun _ _ h => ⟨h.1, hs.post h.2 (fun k nb hk => ⟨hs.low k nb hk, hs.nodes k nb hk⟩)⟩
theorem reachP_cell {d : AD} {to_ : Nat → List Int} {tab : Nat → List (Int × Int)} {roots : List Int} {k : Nat} (h : ReachP d to_ tab roots k) : ∃ nb, d.cells[k]? = some (some nb) := by
  have key : ∀ r : Int, (d.get r).isSome = true → ∃ nb, d.cells[(r - 1).toNat]? = some (some nb) := fun r hs => by
    have hr := AD.get_some hs
    unfold AD.get at hs
    rw [if_pos hr] at hs
    cases hc : d.cells[(r - 1).toNat]? with
    | none => rw [hc] at hs; cases hs
    | some o =>
      cases o with
      | none => rw [hc] at hs; cases hs
      | some nb => exact ⟨nb, rfl⟩
  cases h with
  | root r _ hs => exact key r hs
  | step j x _ _ hs => exact key x hs
  | free j p _ _ _ hs => exact key p.2 hs
  | pair j p _ _ _ _ hs => exact key p.2 hs
/-- What a collection leaves. -/
structure ColT (B A : Nat) (d : AD) (to_ : Nat → List Int) (tab : Nat → List (Int × Int)) (en : Nat → Int) (cv fv rv : Value) (w : World) (M : List Bool) (frv fv' : Value) (w' : World) : Prop where
  len : M.length = d.cells.length
  reach : ∀ k : Nat, M[k]? = some true ↔ ReachP d to_ tab d.roots k
  row : w'.ownsRow w.heap.size 3 1 frv (frL d M d.cells.length).length (numsV (frL d M d.cells.length))
  sys : SysT B A (d.swept (frL d M d.cells.length)) to_ (tellT d M tab d.cells.length) (enK en (gnL d M d.cells.length)) cv fv' rv w'
  touch : Touch (fun k => AFoot A cv fv rv k ∨ NodeS d k) w w'
  own : ∀ k, AFoot A cv fv' rv k → AFoot A cv fv rv k ∨ w.heap.size ≤ k
/-- The first three cells of a block. -/
def cells3 (w : World) : V3 := fun nb => match w.heap[nb]? with
  | some (.cells cs _ _) => (cs.getD 0 undef, cs.getD 1 undef, cs.getD 2 undef)
  | _ => (undef, undef, undef)
theorem cells3_box {w : World} {nb : Nat} {t : TypeId} {x y z u : Value} (h : Box w nb t #[x, y, z, u]) : cells3 w nb = (x, y, z) := by
  have h' : w.heap[nb]? = some (.cells #[x, y, z, u] t (0, 0)) := h
  unfold cells3
  rw [h']
  rfl
theorem falses_rep : ∀ n, falses (List.replicate n false) = n := fun n => by
  unfold falses
  rw [List.filter_replicate]
  simp
theorem swept_nodes {A N : Nat} {cv fv rv fv' : Value} {d : AD} {to_ : Nat → List Int} {tab : Nat → List (Int × Int)} {en en' : Nat → Int} {w w' : World} (hn : NodesT w d to_ tab en w.heap.size (AFoot A cv fv rv)) (hv : NodesV w' d (cells3 w) en' N) (ht : Touch (fun k => SwF A cv fv k ∨ ∃ i : Nat, d.cells[i]? = some (some k)) w w') (ho : ∀ k, fv'.ownBlock = some k → fv.ownBlock = some k ∨ w.heap.size ≤ k) :
    NodesT w' d to_ tab en' w'.heap.size (AFoot A cv fv' rv) := fun k nb hk => by
  obtain ⟨a, na, ca, ta, nt, ct, fa, hx⟩ := hn k nb hk
  have hb := (hv k nb hk).box
  rw [cells3_box hx.box] at hb
  have hr : ∀ b, InRow a b ∨ InRow ta b ∨ fa.ownBlock = some b → ¬ (SwF A cv fv b ∨ ∃ i : Nat, d.cells[i]? = some (some b)) := fun b hb2 hs => by
    obtain ⟨q1, q2, e, q3, q4⟩ := hx.rlow b hb2
    rcases hs with (hs | hs | hs) | ⟨i, hi⟩
    · exact q2 (.inl hs)
    · exact q2 (.inr (.inl hs))
    · exact q2 (.inr (.inr (.inl hs)))
    · obtain ⟨a2, na2, ca2, ta2, nt2, ct2, fa2, hx2⟩ := hn i b hi
      exact q3.ne hx2.box.lab q4 rfl
  have hlo := hx.low
  have hsz := ht.size
  refine ⟨a, na, ca, ta, nt, ct, fa, hb, hx.ints.touch ht (fun b o e => hr b (.inl ⟨o, e⟩)), hx.tab.touch ht (fun b hb2 => hr b (.inr (.inl hb2))), hx.small, hx.smallT, hx.wf, by omega, fun b hb2 => ?_, hx.faint.touch ht (fun k hk => hr k (.inr (.inr hk)))⟩
  obtain ⟨q1, q2, e, q3, q4⟩ := hx.rlow b hb2
  refine ⟨by omega, fun hf => ?_, e, q3.touch ht (hr b hb2), q4⟩
  rcases hf with hf | hf | hf | hf
  · exact q2 (.inl hf)
  · exact q2 (.inr (.inl hf))
  · rcases ho b hf with h5 | h5
    · exact q2 (.inr (.inr (.inl h5)))
    · omega
  · exact q2 (.inr (.inr (.inr hf)))
set_option maxHeartbeats 4000000 in
set_option maxRecDepth 100000 in
theorem collect_w {B A : Nat} {d : AD} {to_ : Nat → List Int} {tab : Nat → List (Int × Int)} {en : Nat → Int} {cv fv rv : Value} {w : World} (hs : SysT B A d to_ tab en cv fv rv w) (hL : d.cells.length < 1000000) (hfl : d.free.length < 1000000) (hrl : d.roots.length < 1000000) (hen : ∀ b, 0 ≤ en b ∧ en b < 1000000) (hcnt : d.count = someC d.cells) :
    Calls Try.prog 12 #[.pointer (some ⟨A, 0, none⟩), .nilFunc] w fun e w' => ∃ M frv fv', e = .returned frv ∧ ColT B A d to_ tab en cv fv rv w M frv fv' w' := by
  have h := hs.ar
  have hN : ∀ j, AFoot A cv fv rv j → j < w.heap.size := fun j hj => (AFoot.lt h hj).2
  have hn := hs.nodes
  have hNw : w.heap.size ≤ w.heap.size := Nat.le_refl _
  have hlow := hs.low
  obtain ⟨ao, cap, hcv, -, -, -⟩ := slice_own h.co
  obtain ⟨aor, capr, hrv, -, hgr, -⟩ := slice_own h.ro
  have c0 : w.cell? ⟨A, 0, none⟩ = some (.slice ao d.cells.length cap) := by rw [h.box.at_ 0, hcv]; rfl
  have hmk : ∀ W, (Instr.makeSlice 57 (.int .i64 (d.cells.length : Int)) (.int .i64 (d.cells.length : Int))).run Try.prog W = .ok (.slice (some ⟨W.heap.size, 0, none⟩) d.cells.length d.cells.length) (W.alloc (.cells (madeCells (Value.bool false).cells (d.cells.length * 1)) 4)) := fun W => make_B _ (by omega) W
  have hnf : ∀ w : World, (binOp .neq 55 .nilFunc .nilFunc).run Try.prog w = .ok (.bool false) w := fun _ => rfl
  have HA := Veil.mk (And.intro h (And.intro hN (And.intro hn (And.intro hNw (And.intro hen (And.intro hcnt hlow))))))
  clear h hN hn hNw hen hcnt hlow hs
  go_enter Try.func12, Try.ntmps12
  go_upto_region 4 with (fail)
  obtain ⟨hA, hN, hn, hNw, hen, hcnt, hlow⟩ := HA.out
  obtain ⟨Wm, hWm⟩ : ∃ Wm, ((w.alloc (.cells (madeCells #[Value.bool false] d.cells.length) 4)).alloc (.cells #[.pointer (some ⟨A, 0, none⟩), .slice (some ⟨w.heap.size, 0, none⟩) d.cells.length d.cells.length, .slice none 0 0, .map none] 68)).alloc (.cells #[.pointer (some ⟨w.heap.size + 1, 0, none⟩)] 65) = Wm := ⟨_, rfl⟩
  have b1 : Below w.heap.size w (w.alloc (.cells (madeCells #[Value.bool false] d.cells.length) 4)) := (Below.refl _ _).alloc (Nat.le_refl _) _
  have o1 := own_made w d.cells.length (by omega) w.heap.size (Nat.le_refl _)
  have x2 := Box.new (w.alloc (.cells (madeCells #[Value.bool false] d.cells.length) 4)) 68 #[.pointer (some ⟨A, 0, none⟩), .slice (some ⟨w.heap.size, 0, none⟩) d.cells.length d.cells.length, .slice none 0 0, .map none]
  rw [World.size_alloc] at x2
  have x3 := Box.new ((w.alloc (.cells (madeCells #[Value.bool false] d.cells.length) 4)).alloc (.cells #[.pointer (some ⟨A, 0, none⟩), .slice (some ⟨w.heap.size, 0, none⟩) d.cells.length d.cells.length, .slice none 0 0, .map none] 68)) 65 #[.pointer (some ⟨w.heap.size + 1, 0, none⟩)]
  rw [World.size_alloc, World.size_alloc, hWm] at x3
  have mk0 : MkAt Wm w.heap.size A (w.heap.size + 1) (.slice (some ⟨w.heap.size, 0, none⟩) d.cells.length d.cells.length) (.slice none 0 0) (List.replicate d.cells.length false) [] := by
    rw [← hWm]
    exact ⟨(x2.more _), ((o1.alloc _).alloc _), ⟨rfl, .inl ⟨rfl, rfl⟩⟩, by omega⟩
  have bm : Below w.heap.size w Wm := by rw [← hWm]; exact (b1.alloc (by simp) _).alloc (by simp; omega) _
  have hws : w.heap.size ≤ Wm.heap.size := bm.size
  have am := hA.on bm
  have hN2 : ∀ j, AFoot A cv fv rv j → j < w.heap.size := fun j hj => (AFoot.lt hA hj).2
  have hn2 := hn
  have HM := Veil.mk (And.intro mk0 (And.intro x3 (And.intro bm (And.intro am (And.intro hN2 hn2)))))
  have c3 : Wm.cell? ⟨A, 3, none⟩ = some (.slice aor d.roots.length capr) := by rw [am.box.at_ 3, hrv]; rfl
  obtain ⟨mm, hmm⟩ : ∃ mm, w.heap.size + 1 = mm := ⟨_, rfl⟩
  obtain ⟨bp, hbp⟩ : ∃ bp, mm + 1 = bp := ⟨_, rfl⟩
  obtain ⟨mv, hmv⟩ : ∃ mv, Value.slice (some ⟨w.heap.size, 0, none⟩) d.cells.length d.cells.length = mv := ⟨_, rfl⟩
  rw [hWm, hmm, hbp, hmv]
  rw [hmm, hbp, hmv] at HM
  clear hA hN hn hNw hen hcnt hlow b1 o1 x2 x3 mk0 am hN2 hn2 hWm c0 hmk
  have HWm := Veil.mk hws
  go_upto_region 5 with (fail)
  go_loopw [25] (fun i wr => ∃ k : Nat, k ≤ d.roots.length ∧ i = .int .i64 (k : Int) ∧ Below w.heap.size Wm wr ∧ TM w.heap.size Wm wr ∧ Box wr bp 65 #[.pointer (some ⟨mm, 0, none⟩)] ∧ ∃ tv, MkAt wr w.heap.size A mm mv tv ((d.roots.take k).foldl (markP d) (List.replicate d.cells.length false, [])).1 ((d.roots.take k).foldl (markP d) (List.replicate d.cells.length false, [])).2) (fun i _ => d.roots.length - (intOf i).toNat)
  case atStart => exact ⟨0, Nat.zero_le _, rfl, Below.refl _ _, TM.refl _ _, HM.out.2.1, _, HM.out.1⟩
  case round =>
    obtain ⟨k, hk, rfl, hb, htm, hx, tv, hmk⟩ := hrel
    have hk0 : (0 : Int) ≤ (k : Int) := by omega
    obtain ⟨m0, x3, bm, am, hN2, hn2⟩ := HM.out
    by_cases hlt : k < d.roots.length
    · have hlt' : (k : Int) < (d.roots.length : Int) := by omega
      have hkb : (k : Int) < 1000000 := by omega
      obtain ⟨gr, rfl⟩ := hgr (by omega)
      obtain ⟨r, hr⟩ : ∃ r, d.roots[k]? = some r := ⟨_, List.getElem?_eq_getElem hlt⟩
      have ar := am.onN hN2 hb
      have y0 : wr.cell? ⟨gr, k, none⟩ = some (.int .i64 r) := by
        have h1 := ar.ro
        rw [hrv] at h1
        rw [h1.cellAt k (by omega), List.getElem?_map, hr]
        rfl
      have y1 : wr.cell? ⟨bp, 0, none⟩ = some (.pointer (some ⟨mm, 0, none⟩)) := hx.at_ 0
      have hg := (mgood0 d).marks (d.roots.take k)
      have HMK := Veil.mk (mark_any B A w.heap.size mm cv fv rv mv tv d _ _ hg.len hg.todo hL r wr (by have := hb.size; omega) ar hmk)
      have HTK : Veil (d.roots.take (k + 1) = d.roots.take k ++ [r]) := ⟨prefix_snoc _ _ _ hr⟩
      have HB := Veil.mk (And.intro hb (And.intro htm (And.intro hx hmk)))
      clear m0 x3 bm am hN2 hn2 hb htm hx hmk ar hg hr
      go_wp2_with (first | (go_at_call 26; ((with_reducible refine HMK.out.mono ?_); rintro e9 w9 ⟨rfl, ht, tv9, hm9⟩)))
      obtain ⟨hb, htm, hx, hmk⟩ := HB.out
      have t9 := TM.mark hmk ht
      go_round
      case rel => exact ⟨k + 1, by omega, by go_num, hb.trans (t9.below (by have := hb.size; omega)), htm.trans t9, t9.box hx, tv9, by rw [HTK.out, List.foldl_append]; exact hm9⟩
      case measure => simp [intOf]; omega
    · obtain rfl : k = d.roots.length := by omega
      have hlt' : ¬ (d.roots.length : Int) < (d.roots.length : Int) := by omega
      rw [List.take_length] at hmk
      have hg := (mgood0 d).marks d.roots
      have hgo := gone_fold (d := d) d.roots _ (mgood0 d)
      have hpi : PInv d to_ tab d.roots (d.roots.foldl (markP d) (List.replicate d.cells.length false, [])).1 (d.roots.foldl (markP d) (List.replicate d.cells.length false, [])).2 (wtOf (.map [])) := pinv_start to_ tab d.roots hgo
      have hmu0 : mu (d.roots.foldl (markP d) (List.replicate d.cells.length false, [])) ≤ 4000000 := by
        have h1 := hgo.mu
        have h2 : mu (List.replicate d.cells.length false, ([] : List Nat)) = 2 * d.cells.length := by
          unfold mu
          rw [falses_rep]
          simp
        omega
      have y1 : wr.cell? ⟨bp, 0, none⟩ = some (.pointer (some ⟨mm, 0, none⟩)) := hx.at_ 0
      have hNwr : w.heap.size ≤ wr.heap.size := by have := hb.size; omega
      have hmw : MkW wr w.heap.size A mm mv tv (.map none) (d.roots.foldl (markP d) (List.replicate d.cells.length false, [])).1 (d.roots.foldl (markP d) (List.replicate d.cells.length false, [])).2 (.map []) 0 := ⟨hmk, .inl ⟨rfl, rfl⟩⟩
      have HTR := Veil.mk (trace_w B A w.heap.size mm cv fv rv mv tv (.map none) d _ hg hL to_ tab en (AFoot A cv fv rv) d.roots (.map []) hpi hmu0 wr hNwr (fun k hk => reachP_cell hk) (am.onN hN2 hb) hN2 (hn2.onN (bm.trans hb)) hmw)
      have HB := Veil.mk (And.intro hb hx)
      clear m0 x3 bm am hN2 hn2 hb htm hx hmk hg hgo hpi hgr hmu0 hmw
      go_upto_region 14 with (first | (go_at_call 27; ((with_reducible refine HTR.out.mono ?_); rintro e9 w9 ⟨rfl, ht9, tv9, pv9, D9, c9, M, hw9, hg9, hp9⟩)))
      obtain ⟨m0, x3, bm, am, hN2, hn2⟩ := HM.out
      have hb9 : Below w.heap.size Wm w9 := HB.out.1.trans (ht9.below hNwr)
      have hx9 := ht9.box HB.out.2
      have a9 := am.onN hN2 hb9
      have n9 := hn2.onN (bm.trans hb9)
      have hs9 : w.heap.size ≤ w9.heap.size := by have := hb9.size; omega
      have y9 : w9.cell? ⟨bp, 0, none⟩ = some (.pointer (some ⟨mm, 0, none⟩)) := hx9.at_ 0
      have HTE := Veil.mk (tell_w B A w.heap.size mm cv fv rv mv tv9 pv9 d M [] D9 c9 hg9.len hL to_ tab en w9 hs9 a9 hN2 n9 hw9)
      obtain ⟨hA, hN, hn, hNw, hen, hcnt, hlow⟩ := HA.out
      have hcn : (frL d M d.cells.length).length ≤ d.count := by
        rw [hcnt]
        have := frL_count d M d.cells.length
        rw [List.take_length] at this
        exact this
      have hcb : d.count < 10000000 := by
        rw [hcnt]
        have : someC d.cells ≤ d.cells.length := List.length_filter_le _ _
        omega
      have nS : ∀ j, NodeS d j → j < w.heap.size ∧ Lab w9 j 30 := fun j ⟨i, hi⟩ => by
        obtain ⟨a, na, ca, ta, nt, ct, fa, hx⟩ := n9 i j hi
        exact ⟨hx.low, hx.box.lab⟩
      have hy8 : ∀ w8, Touch (NodeS d) w9 w8 → Box w8 bp 65 #[.pointer (some ⟨mm, 0, none⟩)] := fun w8 t8 => hx9.touch t8 (fun hj => hx9.lab.ne (nS _ hj).2 (by decide) rfl)
      have HY8 := Veil.mk hy8
      have HSW : Veil (∀ w8, Touch (NodeS d) w9 w8 → NodesT w8 d to_ (tellT d M tab d.cells.length) en w8.heap.size (AFoot A cv fv rv) → Calls Try.prog 30 #[.pointer (some ⟨A, 0, none⟩), deadV mm] w8 fun e w' => ∃ frv fv', e = .returned frv ∧ ColT B A d to_ tab en cv fv rv w M frv fv' w') := ⟨fun w8 t8 n8 => by
        have a8 : ArAt w8 B A cv fv rv d := a9.touch t8 (fun j hj hs => AFoot.lab a9 (nS j hs).2 (by decide) (by decide) (by decide) hj)
        have m8 := hw9.touch t8 (fun j hj hs => by
          have := WFoot.ge hw9 hj
          have := (nS j hs).1
          omega)
        have v8 : NodesV w8 d (cells3 w8) en w.heap.size := fun k nb hk => by
          obtain ⟨a, na, ca, ta, nt, ct, fa, hx⟩ := n8 k nb hk
          exact ⟨by rw [cells3_box hx.box]; exact hx.box, (nS nb ⟨k, hk⟩).1⟩
        have hs8 : w.heap.size ≤ w8.heap.size := by have := t8.size; omega
        refine (sweep_v B A w.heap.size mm cv fv rv mv tv9 pv9 d M [] hg9.len hL hfl (cells3 w8) en hen w8 hs8 hcn hcb a8 hN2 v8 m8.mk_).mono ?_
        rintro e7 w7 ⟨frv, fv', rfl, p1, p2, p3, p4, p5⟩
        have hn7 := swept_nodes n8 p3 p4 p5
        have ho : ∀ k, AFoot A cv fv' rv k → AFoot A cv fv rv k ∨ w.heap.size ≤ k := fun k hk => by
          rcases hk with hk | hk | hk | hk
          · exact .inl (.inl hk)
          · exact .inl (.inr (.inl hk))
          · exact (p5 k hk).imp (fun h => .inr (.inr (.inl h))) (fun h => by omega)
          · exact .inl (.inr (.inr (.inr hk)))
        have hsub : ∀ (k nb : Nat), (d.swept (frL d M d.cells.length)).cells[k]? = some (some nb) → d.cells[k]? = some (some nb) := fun k nb hk => clearC_sub _ _ _ _ hk
        have hbw : Below w.heap.size w w9 := bm.trans hb9
        exact ⟨frv, fv', rfl, hg9.len, pinv_done hp9, own_monoB p1 hs8, ⟨p2, fun k nb hk => hn7 k nb (hsub k nb hk), fun k nb hk => hlow k nb (hsub k nb hk)⟩,
          ((Touch.of_below hbw).trans (t8.mono (fun k hk => .inr hk))).trans (p4.mono (fun k hk => hk.imp (fun hk => by
            rcases hk with hk | hk | hk
            · exact .inl hk
            · exact .inr (.inl hk)
            · exact .inr (.inr (.inl hk))) id)), ho⟩⟩
      clear m0 x3 bm am hN2 hn2 hb9 hx9 a9 n9 hA hN hn hNw hen hcnt hcn hcb hw9 hg9 hp9 ht9 y1 hlow nS hy8 hs9
      go_wp2_with (first | (go_at_call 28; ((with_reducible refine HTE.out.mono ?_); rintro e8 w8 ⟨rfl, t8, n8⟩; have y8 : w8.cell? ⟨bp, 0, none⟩ = some (.pointer (some ⟨mm, 0, none⟩)) := (HY8.out w8 t8).at_ 0)) | (go_at_call 30; ((with_reducible refine (HSW.out w8 t8 n8).mono ?_); rintro e7 w7 ⟨frv, fv', rfl, hcol⟩)))
      go_ret
      exact ⟨M, frv, fv', rfl, hcol⟩
end Go.Proofs.Ytkkbfadfgdjkdaa
