/- Package arena: Collect with nothing more, bodies that are only followed. -/
import Derived.Test.YtbeapojjbgkalaaGreatDoorSj
namespace Go.Proofs.YtbeapojjbgkalaaGreatDoor
open Go Go.RowKit

theorem Tryz.infoL : (Tryz.prog.info? 4).map (fun i => (i.zero, i.size, i.bytes)) = some (some (.bool false), 1, 1) := by kernel_rfl
theorem make_B (n : Nat) (hn : n ≤ 1000000) (W : World) : (Instr.makeSlice 109 (.int .i64 (n : Int)) (.int .i64 (n : Int))).run Tryz.prog W = .ok (.slice (some ⟨W.heap.size, 0, none⟩) n n) (W.alloc (.cells (madeCells (Value.bool false).cells (n * 1)) 4)) := by
  obtain ⟨iI, hiI, hzI0, hzI1, hzI2⟩ := info_parts Tryz.infoL
  have := run_make (P := Tryz.prog) W 109 4 iI _ Tryz.underlying109 hiI hzI0 .i64 .i64 (n : Int) (n : Int) (by omega) (by omega) (by rw [hzI2]; omega) (by omega)
  rw [hzI1] at this
  simpa using this
theorem own_made (W : World) (n : Nat) (hn : n ≤ 1000000) (N : Nat) (hN : N ≤ W.heap.size) : (W.alloc (.cells (madeCells #[Value.bool false] n) 4)).ownsRow N 4 1 (.slice (some ⟨W.heap.size, 0, none⟩) n n) (List.replicate n false).length (boolsV (List.replicate n false)) := by
  have h := World.ownsRow_lit (base := N) (e := 4) (size := 1) W (madeCells #[Value.bool false] n) n hN (by unfold maxLen; omega) (by rw [size_madeCells]; omega)
  have e : (madeCells #[Value.bool false] n).toList = boolsV (List.replicate n false) := by
    rw [toList_madeCells_one]
    simp
  rw [e] at h
  rw [List.length_replicate]
  exact h
theorem reach_cell {d : AD} {to_ : Bd → List Int} {roots : List Int} {k : Nat} (h : Reach d to_ roots k) : ∃ nb, d.cells[k]? = some (some nb) := by
  have key : ∀ r : Int, (d.get r).isSome = true → ∃ nb, d.cells[(r - 1).toNat]? = some (some nb) := fun r hs => by
    have hr := AD.get_some hs
    unfold AD.get at hs
    rw [if_pos hr] at hs
    cases hc : d.cells[(r - 1).toNat]? with
    | none => rw [hc] at hs; cases hs
    | some o =>
      cases o with
      | none => rw [hc] at hs; cases hs
      | some nb => exact ⟨nb, rfl⟩
  cases h with
  | root r _ hs => exact key r hs
  | step j x _ _ hs => exact key x hs
def someC (l : List (Option Bd)) : Nat := (l.filter Option.isSome).length
theorem frL_count (d : AD) (M : List Bool) : ∀ k, (frL d M k).length ≤ someC (d.cells.take k)
  | 0 => Nat.zero_le _
  | k + 1 => by
    have ih := frL_count d M k
    have hle : someC (d.cells.take k) ≤ someC (d.cells.take (k + 1)) := by
      rw [List.take_add_one]
      unfold someC
      rw [List.filter_append, List.length_append]
      omega
    cases h : deadB d M ((k : Int) + 1) with
    | false => rw [frL_no h]; omega
    | true =>
      obtain ⟨nb, hnb⟩ := dead_node h
      rw [frL_yes h, prefix_snoc d.cells k (some nb) hnb]
      unfold someC at ih ⊢
      rw [List.filter_append, List.length_append, List.length_append]
      simp
      exact ih
theorem own_monoB {w : World} {B B' n size : Nat} {v : Value} {xs : List Value} {e : TypeId} (h : w.ownsRow B e size v n xs) (hB : B' ≤ B) : w.ownsRow B' e size v n xs := by
  obtain ⟨h1, h2⟩ := h
  refine ⟨h1, ?_⟩
  rcases h2 with h2 | ⟨g, cap, cur, h3, h4, h5⟩
  · exact .inl h2
  · exact .inr ⟨g, cap, cur, h3, Nat.le_trans hB h4, h5⟩
theorem MkAt.monoN {w : World} {N N' A m : Nat} {mv tv : Value} {M : List Bool} {todo : List Nat} (h : MkAt w N A m mv tv M todo) (hN : N' ≤ N) : MkAt w N' A m mv tv M todo := ⟨h.box, own_monoB h.mo hN, own_monoB h.tq hN, Nat.le_trans hN h.hm⟩
theorem mgood0 (d : AD) : MGood d (List.replicate d.cells.length false, []) := ⟨List.length_replicate, List.nodup_nil, fun k hk => by cases hk⟩
def ColPost (B A : Nat) (cv fv rv : Value) (d : AD) (to_ : Bd → List Int) (w : World) (e : Ending) (w' : World) : Prop :=
  ∃ (M : List Bool) (frv fv' : Value), M.length = d.cells.length ∧ (∀ k : Nat, M[k]? = some true ↔ Reach d to_ d.roots k) ∧ e = .returned frv ∧ w'.ownsRow w.heap.size 3 1 frv (frL d M d.cells.length).length (numsV (frL d M d.cells.length)) ∧
    ArAt w' B A cv fv' rv (d.swept (frL d M d.cells.length)) ∧ Touch (SwF A cv fv) w w' ∧ ∀ k, fv'.ownBlock = some k → fv.ownBlock = some k ∨ w.heap.size ≤ k
set_option maxHeartbeats 4000000 in
set_option maxRecDepth 100000 in
theorem collect_plain (B A : Nat) (cv fv rv : Value) (d : AD) (hL : d.cells.length < 1000000) (hfl : d.free.length < 1000000) (hrl : d.roots.length < 1000000) (to_ : Bd → List Int) (hcnt : d.count = someC d.cells) (w : World)
    (h : ArAt w B A cv fv rv d) (hpl : ∀ (k : Nat) (b : Bd), d.cells[k]? = some (some b) → PlB b) (hn : ∀ (k : Nat) (b : Bd), Reach d to_ d.roots k → d.cells[k]? = some (some b) → FolB w.heap.size w b (to_ b)) :
    Calls Tryz.prog 21 #[.pointer (some ⟨A, 0, none⟩), .nilFunc] w (ColPost B A cv fv rv d to_ w) := by
  obtain ⟨ao, cap, hcv, -, -, -⟩ := slice_own h.co
  obtain ⟨aor, capr, hrv, -, hgr, -⟩ := slice_own h.ro
  have c0 : w.cell? ⟨A, 0, none⟩ = some (.slice ao d.cells.length cap) := by rw [h.box.at_ 0, hcv]; rfl
  have hmk : ∀ W, (Instr.makeSlice 109 (.int .i64 (d.cells.length : Int)) (.int .i64 (d.cells.length : Int))).run Tryz.prog W = .ok (.slice (some ⟨W.heap.size, 0, none⟩) d.cells.length d.cells.length) (W.alloc (.cells (madeCells (Value.bool false).cells (d.cells.length * 1)) 4)) := fun W => make_B _ (by omega) W
  have hnf : ∀ w : World, (binOp .neq 107 .nilFunc .nilFunc).run Tryz.prog w = .ok (.bool false) w := fun _ => rfl
  have HA := Veil.mk (And.intro h (And.intro hpl (And.intro hn hcnt)))
  clear h hpl hn hcnt
  go_enter Tryz.func21, Tryz.ntmps21
  go_upto_region 4 with (fail)
  obtain ⟨hA, hpl, hn, hcnt⟩ := HA.out
  obtain ⟨Wm, hWm⟩ : ∃ Wm, ((w.alloc (.cells (madeCells #[Value.bool false] d.cells.length) 4)).alloc (.cells #[.pointer (some ⟨A, 0, none⟩), .slice (some ⟨w.heap.size, 0, none⟩) d.cells.length d.cells.length, .slice none 0 0, .map none] 112)).alloc (.cells #[.pointer (some ⟨w.heap.size + 1, 0, none⟩)] 108) = Wm := ⟨_, rfl⟩
  have b1 : Below w.heap.size w (w.alloc (.cells (madeCells #[Value.bool false] d.cells.length) 4)) := (Below.refl _ _).alloc (Nat.le_refl _) _
  have o1 := own_made w d.cells.length (by omega) w.heap.size (Nat.le_refl _)
  have x2 := Box.new (w.alloc (.cells (madeCells #[Value.bool false] d.cells.length) 4)) 112 #[.pointer (some ⟨A, 0, none⟩), .slice (some ⟨w.heap.size, 0, none⟩) d.cells.length d.cells.length, .slice none 0 0, .map none]
  rw [World.size_alloc] at x2
  have x3 := Box.new ((w.alloc (.cells (madeCells #[Value.bool false] d.cells.length) 4)).alloc (.cells #[.pointer (some ⟨A, 0, none⟩), .slice (some ⟨w.heap.size, 0, none⟩) d.cells.length d.cells.length, .slice none 0 0, .map none] 112)) 108 #[.pointer (some ⟨w.heap.size + 1, 0, none⟩)]
  rw [World.size_alloc, World.size_alloc, hWm] at x3
  have mk0 : MkAt Wm w.heap.size A (w.heap.size + 1) (.slice (some ⟨w.heap.size, 0, none⟩) d.cells.length d.cells.length) (.slice none 0 0) (List.replicate d.cells.length false) [] := by
    rw [← hWm]
    exact ⟨(x2.more _), ((o1.alloc _).alloc _), ⟨rfl, .inl ⟨rfl, rfl⟩⟩, by omega⟩
  have bm : Below w.heap.size w Wm := by rw [← hWm]; exact (b1.alloc (by simp) _).alloc (by simp; omega) _
  have hws : w.heap.size ≤ Wm.heap.size := bm.size
  have am := hA.on bm
  have hN2 : ∀ j, AFoot A cv fv rv j → j < w.heap.size := fun j hj => (AFoot.lt hA hj).2
  have HM := Veil.mk (And.intro mk0 (And.intro x3 (And.intro bm (And.intro am hN2))))
  have c3 : Wm.cell? ⟨A, 3, none⟩ = some (.slice aor d.roots.length capr) := by rw [am.box.at_ 3, hrv]; rfl
  obtain ⟨mm, hmm⟩ : ∃ mm, w.heap.size + 1 = mm := ⟨_, rfl⟩
  obtain ⟨bp, hbp⟩ : ∃ bp, mm + 1 = bp := ⟨_, rfl⟩
  obtain ⟨mv, hmv⟩ : ∃ mv, Value.slice (some ⟨w.heap.size, 0, none⟩) d.cells.length d.cells.length = mv := ⟨_, rfl⟩
  rw [hWm, hmm, hbp, hmv]
  rw [hmm, hbp, hmv] at HM
  clear hA hpl hn hcnt b1 o1 x2 x3 mk0 am hN2 hWm c0 hmk
  go_upto_region 5 with (fail)
  go_loopw [25] (fun i wr => ∃ k : Nat, k ≤ d.roots.length ∧ i = .int .i64 (k : Int) ∧ Below w.heap.size Wm wr ∧ TM w.heap.size Wm wr ∧ Box wr bp 108 #[.pointer (some ⟨mm, 0, none⟩)] ∧ ∃ tv, MkAt wr w.heap.size A mm mv tv ((d.roots.take k).foldl (markP d) (List.replicate d.cells.length false, [])).1 ((d.roots.take k).foldl (markP d) (List.replicate d.cells.length false, [])).2) (fun i _ => d.roots.length - (intOf i).toNat)
  case atStart => exact ⟨0, Nat.zero_le _, rfl, Below.refl _ _, TM.refl _ _, HM.out.2.1, _, HM.out.1⟩
  case round =>
    obtain ⟨k, hk, rfl, hb, htm, hx, tv, hmk⟩ := hrel
    have hk0 : (0 : Int) ≤ (k : Int) := by omega
    obtain ⟨m0, x3, bm, am, hN2⟩ := HM.out
    by_cases hlt : k < d.roots.length
    · have hlt' : (k : Int) < (d.roots.length : Int) := by omega
      have hkb : (k : Int) < 1000000 := by omega
      obtain ⟨gr, rfl⟩ := hgr (by omega)
      obtain ⟨r, hr⟩ : ∃ r, d.roots[k]? = some r := ⟨_, List.getElem?_eq_getElem hlt⟩
      have ar := am.onN hN2 hb
      have y0 : wr.cell? ⟨gr, k, none⟩ = some (.int .i64 r) := by
        have h1 := ar.ro
        rw [hrv] at h1
        rw [h1.cellAt k (by omega), List.getElem?_map, hr]
        rfl
      have y1 : wr.cell? ⟨bp, 0, none⟩ = some (.pointer (some ⟨mm, 0, none⟩)) := hx.at_ 0
      have hg := (mgood0 d).marks (d.roots.take k)
      have HMK := Veil.mk (mark_any B A w.heap.size mm cv fv rv mv tv d _ _ hg.len hg.todo hL r wr (by have := hb.size; omega) ar hmk)
      have HTK : Veil (d.roots.take (k + 1) = d.roots.take k ++ [r]) := ⟨prefix_snoc _ _ _ hr⟩
      have HB := Veil.mk (And.intro hb (And.intro htm (And.intro hx hmk)))
      clear m0 x3 bm am hN2 hb htm hx hmk ar hg hr
      go_wp2_with (first | (go_at_call 57; ((with_reducible refine HMK.out.mono ?_); rintro e9 w9 ⟨rfl, ht, tv9, hm9⟩)))
      obtain ⟨hb, htm, hx, hmk⟩ := HB.out
      have t9 := TM.mark hmk ht
      go_round
      case rel => exact ⟨k + 1, by omega, by go_num, hb.trans (t9.below (by have := hb.size; omega)), htm.trans t9, t9.box hx, tv9, by rw [HTK.out, List.foldl_append]; exact hm9⟩
      case measure => simp [intOf]; omega
    · obtain rfl : k = d.roots.length := by omega
      have hlt' : ¬ (d.roots.length : Int) < (d.roots.length : Int) := by omega
      rw [List.take_length] at hmk
      have hg := (mgood0 d).marks d.roots
      have hgo := gone_fold (d := d) d.roots _ (mgood0 d)
      have hti := tinv_roots to_ d.roots hgo
      have y1 : wr.cell? ⟨bp, 0, none⟩ = some (.pointer (some ⟨mm, 0, none⟩)) := hx.at_ 0
      have hNwr : w.heap.size ≤ wr.heap.size := by have := hb.size; omega
      have HTR := Veil.mk (trace_any B A w.heap.size mm cv fv rv mv tv d _ hg hL to_ d.roots hti wr hNwr (fun k hk => reach_cell hk) (am.onN hN2 hb) hN2 (fun k b hr hk => ⟨HA.out.2.1 k b hk, (HA.out.2.2.1 k b hr hk).on (bm.trans hb)⟩) hmk)
      have HB := Veil.mk (And.intro hb hx)
      clear m0 x3 bm am hN2 hb htm hx hmk hg hgo hti hgr
      go_upto_region 14 with (first | (go_at_call 58; ((with_reducible refine HTR.out.mono ?_); rintro e9 w9 ⟨rfl, ht9, tv9, M, hm9, hg9, hti9⟩)))
      obtain ⟨m0, x3, bm, am, hN2⟩ := HM.out
      have hb9 : Below w.heap.size Wm w9 := HB.out.1.trans (ht9.below hNwr)
      have hx9 := ht9.box HB.out.2
      have a9 := am.onN hN2 hb9
      have y9 : w9.cell? ⟨bp, 0, none⟩ = some (.pointer (some ⟨mm, 0, none⟩)) := hx9.at_ 0
      have HTE := Veil.mk (tell_plain B A w.heap.size mm cv fv rv mv tv9 d M [] hg9.len hL w9 a9 HA.out.2.1 hm9)
      obtain ⟨hA, hpl, hn, hcnt⟩ := HA.out
      have hcn : (frL d M d.cells.length).length ≤ d.count := by
        rw [hcnt]
        have := frL_count d M d.cells.length
        rw [List.take_length] at this
        exact this
      have hcb : d.count < 10000000 := by
        rw [hcnt]
        have : someC d.cells ≤ d.cells.length := List.length_filter_le _ _
        omega
      have hs9 : w.heap.size ≤ w9.heap.size := by have := hb9.size; omega
      have HSW := Veil.mk (sweep_plain B A w.heap.size mm cv fv rv mv tv9 d M [] hg9.len hL hfl hpl w9 (by omega) hcn hcb a9 (fun j hj => (AFoot.lt hA hj).2) hm9)
      have HM9 := Veil.mk (And.intro hg9.len (And.intro (tinv_end hti9) (And.intro (bm.trans hb9) hs9)))
      clear m0 x3 bm am hN2 hb9 hx9 a9 hA hpl hn hcnt hcn hcb hm9 hg9 hti9 ht9 y1
      go_wp2_with (first | (go_at_call 59; ((with_reducible refine HTE.out.mono ?_); rintro e8 w8 ⟨rfl, h8⟩; subst w8)) | (go_at_call 61; ((with_reducible refine HSW.out.mono ?_); rintro e7 w7 ⟨frv, fv', rfl, p1, p2, p4, p5⟩)))
      go_ret
      obtain ⟨k1, k2, k3, k4⟩ := HM9.out
      exact ⟨M, frv, fv', k1, k2, rfl, own_monoB p1 k4, p2, (Touch.of_below k3).trans p4, fun k hk => (p5 k hk).imp id (fun h => Nat.le_trans k4 h)⟩
end Go.Proofs.YtbeapojjbgkalaaGreatDoor
