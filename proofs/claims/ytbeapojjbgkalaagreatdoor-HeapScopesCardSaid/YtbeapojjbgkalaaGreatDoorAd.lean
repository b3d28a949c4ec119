/- Package arena: a collection's marks: isCell, dead, mark. -/
import Derived.Test.YtbeapojjbgkalaaGreatDoorAc
namespace Go.Proofs.YtbeapojjbgkalaaGreatDoor
open Go Go.RowKit

theorem Touch.of_belowN {N : Nat} {w w' : World} (h : Below N w w') : Touch (fun k => N ≤ k) w w' := ⟨h.os, h.tape, h.output, h.size, fun k _ hn => h.block k (by omega)⟩
theorem ArAt.onN {N : Nat} {w w' : World} {B A : Nat} {cv fv rv : Value} {d : AD} (h : ArAt w B A cv fv rv d) (hN : ∀ k, AFoot A cv fv rv k → k < N) (hb : Below N w w') : ArAt w' B A cv fv rv d := h.touch (Touch.of_belowN hb) (fun k hk hn => by have := hN k hk; omega)
abbrev boolsV (l : List Bool) : List Value := l.map fun b => .bool b
abbrev todoV (l : List Nat) : List Value := l.map fun (k : Nat) => .int .i64 ((k : Int) + 1)
structure MkP (w : World) (N A m : Nat) (mv tv pv : Value) (M : List Bool) (todo : List Nat) : Prop where
  box : Box w m 112 #[.pointer (some ⟨A, 0, none⟩), mv, tv, pv]
  mo : w.ownsRow N 4 1 mv M.length (boolsV M)
  tq : w.ownsRow N 3 1 tv todo.length (todoV todo)
  hm : N ≤ m
abbrev MkAt (w : World) (N A m : Nat) (mv tv : Value) (M : List Bool) (todo : List Nat) : Prop := MkP w N A m mv tv (.map none) M todo
theorem MkP.on {w w' : World} {N A m : Nat} {mv tv pv : Value} {M : List Bool} {todo : List Nat} (h : MkP w N A m mv tv pv M todo) (hb : Below w.heap.size w w') : MkP w' N A m mv tv pv M todo := ⟨h.box.below hb, own_below h.mo hb, own_below h.tq hb, h.hm⟩
theorem AD.get_some {d : AD} {r : Int} (h : (d.get r).isSome = true) : 1 ≤ r ∧ r ≤ d.cells.length := by
  unfold AD.get at h
  split at h
  · assumption
  · cases h
/-- Is it a cell that isn't marked? -/
def deadB (d : AD) (M : List Bool) (r : Int) : Bool := (d.get r).isSome && !(M[(r - 1).toNat]?.getD false)
def markP (d : AD) (st : List Bool × List Nat) (r : Int) : List Bool × List Nat := if deadB d st.1 r = true then (st.1.set (r - 1).toNat true, st.2 ++ [(r - 1).toNat]) else st
theorem markP_len (d : AD) (st : List Bool × List Nat) (r : Int) : (markP d st r).1.length = st.1.length := by
  unfold markP
  split
  · exact List.length_set
  · rfl
/-- From N on, and no box of a marker's pointer. -/
def TM (N : Nat) (w w' : World) : Prop := Touch (fun k => N ≤ k ∧ ¬ Lab w k 108) w w'
theorem Lab.touch {S : Nat → Prop} {w w' : World} {k : Nat} {e : TypeId} (h : Lab w k e) (ht : Touch S w w') (hn : ¬ S k) : Lab w' k e := by
  obtain ⟨cs, fr, hc⟩ := h
  exact ⟨cs, fr, (ht.block k (Array.getElem?_eq_some_iff.1 hc).1 hn).trans hc⟩
theorem TM.refl (N : Nat) (w : World) : TM N w w := Touch.refl _ _
theorem TM.trans {N : Nat} {a b c : World} (h : TM N a b) (h2 : TM N b c) : TM N a c :=
  ⟨h2.os.trans h.os, h2.tape.trans h.tape, h2.output.trans h.output, Nat.le_trans h.size h2.size, fun k hk hn => (h2.block k (Nat.lt_of_lt_of_le hk h.size) (fun h3 => by
    by_cases hl : Lab a k 108
    · exact h3.2 (hl.touch h (fun h4 => h4.2 hl))
    · exact hn ⟨h3.1, hl⟩)).trans (h.block k hk hn)⟩
theorem TM.below {N : Nat} {w w' : World} (h : TM N w w') (hN : N ≤ w.heap.size) : Below N w w' := Touch.below h hN (fun _ hk => hk.1)
theorem TM.box {N : Nat} {w w' : World} {g : Nat} {cs : Array Value} (h : TM N w w') (hb : Box w g 108 cs) : Box w' g 108 cs := hb.touch h (fun hk => hk.2 hb.lab)
theorem TM.of_below {N : Nat} {w w' : World} (h : Below w.heap.size w w') : TM N w w' := Touch.of_below h
theorem TM.of {N : Nat} {S : Nat → Prop} {w w' : World} (h : Touch S w w') (h1 : ∀ k, S k → N ≤ k) (h2 : ∀ k, S k → ¬ Lab w k 108) : TM N w w' := h.mono (fun k hk => ⟨h1 k hk, h2 k hk⟩)
set_option maxHeartbeats 2000000 in
set_option maxRecDepth 100000 in
theorem isCell_any (B A N m : Nat) {pv : Value} (cv fv rv mv tv : Value) (d : AD) (M : List Bool) (todo : List Nat) (hML : M.length = d.cells.length) (r : Int) (w : World) (h : ArAt w B A cv fv rv d) (hm : MkP w N A m mv tv pv M todo) :
    Calls Tryz.prog 90 #[.pointer (some ⟨m, 0, none⟩), .int .i64 r] w fun e w' => e = .returned (.bool (d.get r).isSome) ∧ w' = w := by
  obtain ⟨ao, cap, rfl, -, -, -⟩ := slice_own hm.mo
  have c1 : w.cell? ⟨m, 1, none⟩ = some (.slice ao d.cells.length cap) := by rw [hm.box.at_ 1, ← hML]; rfl
  have c0 : w.cell? ⟨m, 0, none⟩ = some (.pointer (some ⟨A, 0, none⟩)) := hm.box.at_ 0
  by_cases hr : (d.cells.length : Int) < r
  · have hg : d.get r = none := by unfold AD.get; rw [if_neg (by omega)]
    have hr2 : ¬ r ≤ (d.cells.length : Int) := by omega
    rw [hg]
    clear h hm hML
    go_enter Tryz.func90, Tryz.ntmps90
    go_wp2
    go_ret
    exact ⟨rfl, rfl⟩
  · have hr2 : r ≤ (d.cells.length : Int) := by omega
    have HG : Veil (Calls Tryz.prog 39 #[.pointer (some ⟨A, 0, none⟩), .int .i64 r] w fun e w' => e = .returned (bodyV (d.get r)) ∧ w' = w) := ⟨get_any B A cv fv rv d r w h⟩
    obtain ⟨o, ho⟩ : ∃ o, d.get r = o := ⟨_, rfl⟩
    rw [ho] at HG ⊢
    clear h hm hML hr ho
    cases o with
    | none =>
      replace HG : Veil (Calls Tryz.prog 39 #[.pointer (some ⟨A, 0, none⟩), .int .i64 r] w fun e w' => e = .returned .nilIface ∧ w' = w) := HG
      go_enter Tryz.func90, Tryz.ntmps90
      go_wp2_with (first | (go_at_call 39; ((with_reducible refine HG.out.mono ?_); rintro e9 w9 ⟨rfl, h9⟩; subst w9)))
      go_ret
      exact ⟨rfl, rfl⟩
    | some nb =>
      replace HG : Veil (Calls Tryz.prog 39 #[.pointer (some ⟨A, 0, none⟩), .int .i64 r] w fun e w' => e = .returned (nodeV nb) ∧ w' = w) := HG
      have hn : ∀ w : World, (binOp .neq 87 (nodeV nb) .nilIface).run Tryz.prog w = .ok (.bool true) w := fun _ => rfl
      go_enter Tryz.func90, Tryz.ntmps90
      go_wp2_with (first | (go_at_call 39; ((with_reducible refine HG.out.mono ?_); rintro e9 w9 ⟨rfl, h9⟩; subst w9)))
      go_ret
      exact ⟨rfl, rfl⟩
set_option maxHeartbeats 2000000 in
set_option maxRecDepth 100000 in
theorem dead_any (B A N m : Nat) {pv : Value} (cv fv rv mv tv : Value) (d : AD) (M : List Bool) (todo : List Nat) (hML : M.length = d.cells.length) (r : Int) (w : World) (h : ArAt w B A cv fv rv d) (hm : MkP w N A m mv tv pv M todo) :
    Calls Tryz.prog 60 #[.pointer (some ⟨m, 0, none⟩), .int .i64 r] w fun e w' => e = .returned (.bool (deadB d M r)) ∧ w' = w := by
  have HC : Veil (Calls Tryz.prog 90 #[.pointer (some ⟨m, 0, none⟩), .int .i64 r] w fun e w' => e = .returned (.bool (d.get r).isSome) ∧ w' = w) := ⟨isCell_any B A N m cv fv rv mv tv d M todo hML r w h hm⟩
  cases hs : (d.get r).isSome with
  | false =>
    have hd : deadB d M r = false := by unfold deadB; rw [hs]; rfl
    rw [hs] at HC
    rw [hd]
    clear h hm hML hs hd
    go_enter Tryz.func60, Tryz.ntmps60
    go_wp2_with (first | (go_at_call 90; ((with_reducible refine HC.out.mono ?_); rintro e9 w9 ⟨rfl, h9⟩; subst w9)))
    go_ret
    exact ⟨rfl, rfl⟩
  | true =>
    have hr := AD.get_some hs
    obtain ⟨k, rfl⟩ : ∃ k : Nat, r = (k : Int) + 1 := ⟨(r - 1).toNat, by omega⟩
    obtain ⟨ao, cap, rfl, hcap, hg, hmx⟩ := slice_own hm.mo
    obtain ⟨g, rfl⟩ := hg (by omega)
    have c1 : w.cell? ⟨m, 1, none⟩ = some (.slice (some ⟨g, 0, none⟩) M.length cap) := hm.box.at_ 1
    have c2 : w.cell? ⟨g, k, none⟩ = some (.bool (M[k]?.getD false)) := by
      have hk : k < M.length := by omega
      rw [hm.mo.cellAt k (by omega), List.getElem?_map, List.getElem?_eq_getElem hk]
      rfl
    have hd : deadB d M ((k : Int) + 1) = !(M[k]?.getD false) := by
      unfold deadB
      rw [hs, show ((k : Int) + 1 - 1).toNat = k by omega]
      rfl
    rw [hs] at HC
    rw [hd]
    obtain ⟨b, hb⟩ : ∃ b, M[k]?.getD false = b := ⟨_, rfl⟩
    rw [hb] at c2 ⊢
    have q1 : (k : Int) + 1 - 1 = (k : Int) := by omega
    have q2 : (0 : Int) ≤ (k : Int) := by omega
    have q3 : (k : Int) < (M.length : Int) := by omega
    unfold maxLen at hmx
    clear h hm hML hs hd hb hr hg
    go_enter Tryz.func60, Tryz.ntmps60
    go_wp2_with (first | (go_at_call 90; ((with_reducible refine HC.out.mono ?_); rintro e9 w9 ⟨rfl, h9⟩; subst w9)))
    go_ret
    exact ⟨rfl, rfl⟩
/-- A marker's own blocks. -/
def MFoot (m : Nat) (mv tv : Value) (k : Nat) : Prop := k = m ∨ mv.ownBlock = some k ∨ tv.ownBlock = some k
theorem MFoot.lt {w : World} {N A m : Nat} {mv tv pv : Value} {M : List Bool} {todo : List Nat} (h : MkP w N A m mv tv pv M todo) {k : Nat} (hk : MFoot m mv tv k) : N ≤ k := by
  rcases hk with rfl | hk | hk
  · exact h.hm
  · exact (own_lt h.mo k hk).1
  · exact (own_lt h.tq k hk).1
theorem MFoot.cells {w : World} {N A m : Nat} {mv tv pv : Value} {M : List Bool} {todo : List Nat} (h : MkP w N A m mv tv pv M todo) {k : Nat} (hk : MFoot m mv tv k) : ∃ e, Lab w k e := by
  rcases hk with rfl | hk | hk
  · exact ⟨_, h.box.lab⟩
  · exact ⟨_, own_lab h.mo k hk⟩
  · exact ⟨_, own_lab h.tq k hk⟩
theorem MFoot.nom {w : World} {N A m : Nat} {mv tv pv : Value} {M : List Bool} {todo : List Nat} (h : MkP w N A m mv tv pv M todo) {k : Nat} (hk : MFoot m mv tv k) : ¬ Lab w k 108 := fun hl => by
  rcases hk with rfl | hk | hk
  · exact hl.ne h.box.lab (by decide) rfl
  · exact hl.ne (own_lab h.mo k hk) (by decide) rfl
  · exact hl.ne (own_lab h.tq k hk) (by decide) rfl
theorem TM.mark {w w' : World} {N A m : Nat} {mv tv pv : Value} {M : List Bool} {todo : List Nat} (h : MkP w N A m mv tv pv M todo) (ht : Touch (MFoot m mv tv) w w') : TM N w w' := TM.of ht (fun _ hk => MFoot.lt h hk) (fun _ hk => MFoot.nom h hk)
def MarkPost (N A m : Nat) (mv tv pv : Value) (d : AD) (M : List Bool) (todo : List Nat) (r : Int) (w : World) (e : Ending) (w' : World) : Prop :=
  e = .returned (.tuple #[]) ∧ Touch (MFoot m mv tv) w w' ∧ ∃ tv', MkP w' N A m mv tv' pv (markP d (M, todo) r).1 (markP d (M, todo) r).2
/-- .. and the cells to follow lie where they lay, or in new memory. -/
def MarkPostF (N A m : Nat) (mv tv pv : Value) (d : AD) (M : List Bool) (todo : List Nat) (r : Int) (w : World) (e : Ending) (w' : World) : Prop :=
  e = .returned (.tuple #[]) ∧ Touch (MFoot m mv tv) w w' ∧ ∃ tv', MkP w' N A m mv tv' pv (markP d (M, todo) r).1 (markP d (M, todo) r).2 ∧ ∀ j, tv'.ownBlock = some j → tv.ownBlock = some j ∨ w.heap.size ≤ j
set_option maxHeartbeats 2000000 in
set_option maxRecDepth 100000 in
theorem mark_full (B A N m : Nat) {pv : Value} (cv fv rv mv tv : Value) (d : AD) (M : List Bool) (todo : List Nat) (hML : M.length = d.cells.length) (hT : todo.length ≤ d.cells.length) (hL : d.cells.length < 1000000) (r : Int) (w : World) (hNw : N ≤ w.heap.size) (h : ArAt w B A cv fv rv d) (hm : MkP w N A m mv tv pv M todo) :
    Calls Tryz.prog 57 #[.pointer (some ⟨m, 0, none⟩), .int .i64 r] w (MarkPostF N A m mv tv pv d M todo r w) := by
  have HD : Veil (Calls Tryz.prog 60 #[.pointer (some ⟨m, 0, none⟩), .int .i64 r] w fun e w' => e = .returned (.bool (deadB d M r)) ∧ w' = w) := ⟨dead_any B A N m cv fv rv mv tv d M todo hML r w h hm⟩
  cases hd : deadB d M r with
  | false =>
    have hp : markP d (M, todo) r = (M, todo) := by unfold markP; rw [hd]; rfl
    have HP : Veil (MarkPostF N A m mv tv pv d M todo r w (.returned (.tuple #[])) w) := ⟨rfl, Touch.refl _ _, tv, by rw [hp]; exact hm, fun j hj => .inl hj⟩
    rw [hd] at HD
    clear h hm hML hd hp hT
    go_enter Tryz.func57, Tryz.ntmps57
    go_wp2_with (first | (go_at_call 60; ((with_reducible refine HD.out.mono ?_); rintro e9 w9 ⟨rfl, h9⟩; subst w9)))
    exact bodyPost_ret (results_none rfl _ _ _) rfl HP.out
  | true =>
    have hs : (d.get r).isSome = true := by
      unfold deadB at hd
      rw [Bool.and_eq_true] at hd
      exact hd.1
    have hr := AD.get_some hs
    obtain ⟨k, rfl⟩ : ∃ k : Nat, r = (k : Int) + 1 := ⟨(r - 1).toNat, by omega⟩
    have hkk : ((k : Int) + 1 - 1).toNat = k := by omega
    have hp : markP d (M, todo) ((k : Int) + 1) = (M.set k true, todo ++ [k]) := by unfold markP; rw [hd, hkk]; rfl
    have HQ : Veil (MarkPostF N A m mv tv pv d M todo ((k : Int) + 1) w = fun e w' => e = .returned (.tuple #[]) ∧ Touch (MFoot m mv tv) w w' ∧ ∃ tv', MkP w' N A m mv tv' pv (M.set k true) (todo ++ [k]) ∧ ∀ j, tv'.ownBlock = some j → tv.ownBlock = some j ∨ w.heap.size ≤ j) := ⟨by
      funext e w'
      unfold MarkPostF
      rw [hp]⟩
    rw [HQ.out]
    obtain ⟨i0, hi, hz0, hz1, hz2⟩ := info_parts Tryz.infoI
    obtain ⟨ao, cap, rfl, hcap, hg, hmx⟩ := slice_own hm.mo
    obtain ⟨g, rfl⟩ := hg (by omega)
    obtain ⟨ao2, cap2, rfl, hcap2, -, hmx2⟩ := slice_own hm.tq
    have c1 : w.cell? ⟨m, 1, none⟩ = some (.slice (some ⟨g, 0, none⟩) M.length cap) := hm.box.at_ 1
    have x1f : w.frozen? ⟨g, k, none⟩ = false := own_free hm.mo k
    have x1 : ∃ v, w.cell? ⟨g, k, none⟩ = some v := by
      rw [hm.mo.cellAt k (by omega)]
      exact ⟨_, List.getElem?_eq_getElem (by rw [List.length_map]; omega)⟩
    obtain ⟨v1, x1⟩ := x1
    have q1 : (k : Int) + 1 - 1 = (k : Int) := by omega
    have q2 : (0 : Int) ≤ (k : Int) := by omega
    have q3 : (k : Int) < (M.length : Int) := by omega
    have q4 : (k : Int) < 1000000 := by omega
    have HM := Veil.mk hm
    rw [hd] at HD
    clear h hML hs hd hr hp hkk hg hm
    go_enter Tryz.func57, Tryz.ntmps57
    go_upto_region 2 with (first | (go_at_call 60; ((with_reducible refine HD.out.mono ?_); rintro e9 w9 ⟨rfl, h9⟩; subst w9)))
    have hm := HM.out
    have t1 : Touch (fun k => k = g) w (w.setCell ⟨g, k, none⟩ (.bool true)) := Touch.put (S := fun k => k = g) rfl _ _
    have lg := own_lab hm.mo g rfl
    have hgN := (own_lt hm.mo g rfl).1
    have h1 : MkP (w.setCell ⟨g, k, none⟩ (.bool true)) N A m (.slice (some ⟨g, 0, none⟩) M.length cap) (.slice ao2 todo.length cap2) pv (M.set k true) todo := by
      refine ⟨hm.box.touch t1 (fun e => (hm.box.lab.ne lg (by decide)) e), ?_, own_touch hm.tq t1 (fun k hk e => ((own_lab hm.tq k hk).ne lg (by decide)) e), hm.hm⟩
      have := own_put hm.mo k (.bool true)
      show World.ownsRow _ N _ 1 _ (M.set k true).length ((M.set k true).map _)
      rw [List.length_set, List.map_set]
      exact this
    generalize w.setCell ⟨g, k, none⟩ (.bool true) = W at h1 t1 ⊢
    clear lg hgN hm HD HM c1 x1 x1f
    have d2 : W.cell? ⟨m, 2, none⟩ = some (.slice ao2 todo.length cap2) := h1.box.at_ 2
    have hBs : N ≤ W.heap.size := by have := t1.size; omega
    have hap := h1.box.apart h1.tq (by decide)
    have tl2 : m < W.heap.size := h1.box.lt
    go_wp2_with (at_builtin; refine wpList_append_lies _ rfl _ _ 57 rfl N 3 i0 (.int .i64 0) 1 8 Tryz.underlying57 hi hz0 hz1 hz2 rfl (by decide) _ _ _ rfl (h1.tq.alloc _) ⟨W.heap.size, 0, none⟩ 1 1 [.int .i64 ((k : Int) + 1)] rfl rfl (news_at _ _ rfl _ _) (by simp [Value.oneCell']) (by decide) (by unfold maxLen; omega) (by omega) (by simp; omega) _ rfl ?_; intro g2 cap' w3 hown' hgrow3 hblk hg3; have hx3 : Box w3 m _ _ := (h1.box.more _).grown hgrow3 hap; have e12 : w3.cell? ⟨m, 2, none⟩ = some (.slice ao2 todo.length cap2) := hx3.at_ 2; have e13 := hx3.free 2; refine Hid.out ?_)
    have hgrow : (W.alloc (.cells #[.int .i64 ((k : Int) + 1)] 3)).grownBy w3 (Value.slice ao2 todo.length cap2).ownBlock := hgrow3
    have hb2 : Below W.heap.size W (W.alloc (.cells #[.int .i64 ((k : Int) + 1)] 3)) := (Below.refl W.heap.size W).alloc (Nat.le_refl _) _
    have ht : Touch (fun k => (Value.slice ao2 todo.length cap2).ownBlock = some k) W w3 := (Touch.of_below hb2).trans (Touch.of_grown hgrow (fun k hk => hk))
    have m3 := own_touch h1.mo ht (fun k hk e => (own_lab h1.tq k e).ne (own_lab h1.mo k hk) (by decide) rfl)
    have tp : Touch (fun k => k = m) w3 (w3.setCell ⟨m, 2, none⟩ (.slice (some ⟨g2, 0, none⟩) (todo.length + 1) cap')) := Touch.put (S := fun k => k = m) rfl _ _
    have hnew : w3.ownsRow N 3 1 (.slice (some ⟨g2, 0, none⟩) (todo.length + 1) cap') (todo ++ [k]).length (todoV (todo ++ [k])) := by
      have e : todoV (todo ++ [k]) = todoV todo ++ [.int .i64 ((k : Int) + 1)] := List.map_append
      rw [List.length_append, e]
      exact hown'
    have hD : Touch (MFoot m (.slice (some ⟨g, 0, none⟩) M.length cap) (.slice ao2 todo.length cap2)) w (w3.setCell ⟨m, 2, none⟩ (.slice (some ⟨g2, 0, none⟩) (todo.length + 1) cap')) ∧ ∃ tv', MkP (w3.setCell ⟨m, 2, none⟩ (.slice (some ⟨g2, 0, none⟩) (todo.length + 1) cap')) N A m (.slice (some ⟨g, 0, none⟩) M.length cap) tv' pv (M.set k true) (todo ++ [k]) ∧ ∀ j, tv'.ownBlock = some j → (Value.slice ao2 todo.length cap2).ownBlock = some j ∨ w.heap.size ≤ j :=
      ⟨(t1.mono (fun k hk => .inr (.inl (by rw [hk]; rfl)))).trans ((ht.mono (fun k hk => .inr (.inr hk))).trans (tp.mono (fun k hk => .inl hk))), _, ⟨hx3.put 2 _, own_touch m3 tp (fun k hk e => ((own_lab m3 k hk).ne hx3.lab (by decide)) e), own_touch hnew tp (fun k hk e => ((own_lab hnew k hk).ne hx3.lab (by decide)) e), h1.hm⟩, fun j hj => by
        have e : g2 = j := by injection hj
        subst e
        rcases hblk with h5 | h5
        · exact .inl h5
        · rw [h5, World.size_alloc]
          have := t1.size
          exact .inr (by omega)⟩
    have HD := Veil.mk hD
    clear hD ht hgrow hgrow3 hblk hown' h1 hap m3 tp hnew hb2 t1
    refine Lib.hid ?_
    go_wp2
    exact bodyPost_end (results_none rfl _ _ _) rfl ⟨rfl, HD.out⟩
theorem mark_any (B A N m : Nat) {pv : Value} (cv fv rv mv tv : Value) (d : AD) (M : List Bool) (todo : List Nat) (hML : M.length = d.cells.length) (hT : todo.length ≤ d.cells.length) (hL : d.cells.length < 1000000) (r : Int) (w : World) (hNw : N ≤ w.heap.size) (h : ArAt w B A cv fv rv d) (hm : MkP w N A m mv tv pv M todo) :
    Calls Tryz.prog 57 #[.pointer (some ⟨m, 0, none⟩), .int .i64 r] w (MarkPost N A m mv tv pv d M todo r w) :=
  (mark_full B A N m cv fv rv mv tv d M todo hML hT hL r w hNw h hm).mono fun _ _ ⟨h1, h2, tv', h3, _⟩ => ⟨h1, h2, tv', h3⟩
end Go.Proofs.YtbeapojjbgkalaaGreatDoor
