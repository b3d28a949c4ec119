/- The numbers that the laws draw, where a value of package api lies, and the contracts of num's operators at a known result. -/
import Derived.Test.YtbkgophgclpijaaDoorMe
import Derived.Deep.DeepCutAuto
import Derived.Deep.QuietTactic
import Derived.BigQuiet
namespace Go.Proofs.YtbkgophgclpijaaDoor.M
open Go.RowKit

/-- The number that the laws make of an integer. -/
def numV (n : Int) : Int × Int :=
  if bits BinOp.and IntKind.i64 n 15 == 0 then (4, 0) else if bits BinOp.and IntKind.i64 n 15 == 1 then (5, 1) else if bits BinOp.and IntKind.i64 n 15 == 2 then (5, -1)
  else if bits BinOp.and IntKind.i64 n 15 == 3 then (6, 0) else (3, (n / 16).tmod 9007199254740992)
theorem numV_num (n : Int) : Num (numV n).1 (numV n).2 := by
  have hb := tmod_bound (n / 16)
  unfold numV
  repeat' split
  all_goals (unfold Num; simp)
  exact hb
/-- Block b is one of the call's own: its three cells can be written. -/
abbrev Own (w : World) (b : Nat) : Prop := w.frozen? ⟨b, 0, none⟩ = false ∧ w.frozen? ⟨b, 1, none⟩ = false ∧ w.frozen? ⟨b, 2, none⟩ = false
/-- A value of package api lies in block b. -/
abbrev At (w : World) (b : Nat) (k n : Int) : Prop := w.cell? ⟨b, 0, none⟩ = some (.int .i64 k) ∧ w.cell? ⟨b, 1, none⟩ = some (.int .i64 n) ∧ w.cell? ⟨b, 2, none⟩ = some (.string ⟨#[]⟩) ∧ Own w b
theorem At.lt {W : World} {b : Nat} {k n : Int} (h : At W b k n) : b < W.heap.size := World.block_lt_of_cell? _ _ h.1
theorem At.later {W W1 : World} {b : Nat} {k n : Int} (h : At W b k n) (hb : Below W.heap.size W W1) : At W1 b k n :=
  have hf : ∀ o, W1.frozen? ⟨b, o, none⟩ = W.frozen? ⟨b, o, none⟩ := fun o => hb.frozen (p := ⟨b, o, none⟩) h.lt
  ⟨cell_later hb h.1, cell_later hb h.2.1, cell_later hb h.2.2.1, (hf 0).trans h.2.2.2.1, (hf 1).trans h.2.2.2.2.1, (hf 2).trans h.2.2.2.2.2⟩
theorem At.alloc {W : World} {b : Nat} {k n : Int} (h : At W b k n) (o : Obj) : At (W.alloc o) b k n := h.later ((Below.refl _ _).alloc (Nat.le_refl _) o)
theorem At.drew {W : World} {b : Nat} {k n : Int} (h : At W b k n) : At W.drew b k n := h
theorem At.new {W : World} {b : Nat} (k n : Int) (h : W.heap.size = b) : At (W.alloc (bx k n)) b k n := by
  subst h
  refine ⟨?_, ?_, ?_, ?_, ?_, ?_⟩ <;> simp
theorem frozen_set (W : World) (a p : Addr) (u : Value) : (W.setCell a u).frozen? p = W.frozen? p := by
  simp
theorem At.far {W : World} {b b' o : Nat} {k n : Int} {u : Value} (h : At W b' k n) (hne : b ≠ b') : At (W.setCell ⟨b, o, none⟩ u) b' k n := by
  have hf : ∀ o', (⟨b, o, none⟩ : Addr) ≠ ⟨b', o', none⟩ := fun o' e => hne (by injection e)
  refine ⟨(World.cell?_setCell_other _ _ _ _ (hf 0)).trans h.1, (World.cell?_setCell_other _ _ _ _ (hf 1)).trans h.2.1, (World.cell?_setCell_other _ _ _ _ (hf 2)).trans h.2.2.1, ?_, ?_, ?_⟩
  · rw [frozen_set]; exact h.2.2.2.1
  · rw [frozen_set]; exact h.2.2.2.2.1
  · rw [frozen_set]; exact h.2.2.2.2.2
theorem At.put {W : World} {b : Nat} {k n k' n' : Int} (h : At W b k n) :
    At (((W.setCell ⟨b, 0, none⟩ (.int .i64 k')).setCell ⟨b, 1, none⟩ (.int .i64 n')).setCell ⟨b, 2, none⟩ (.string ⟨#[]⟩)) b k' n' := by
  have h01 : (⟨b, 0, none⟩ : Addr) ≠ ⟨b, 1, none⟩ := by simp
  have h02 : (⟨b, 0, none⟩ : Addr) ≠ ⟨b, 2, none⟩ := by simp
  have h12 : (⟨b, 1, none⟩ : Addr) ≠ ⟨b, 2, none⟩ := by simp
  refine ⟨?_, ?_, ?_, ?_, ?_, ?_⟩
  · rw [World.cell?_setCell_other _ _ _ _ h02.symm, World.cell?_setCell_other _ _ _ _ h01.symm]; exact World.cell?_setCell_same _ _ _ h.1
  · rw [World.cell?_setCell_other _ _ _ _ h12.symm]; exact World.cell?_setCell_same _ _ _ (by rw [World.cell?_setCell_other _ _ _ _ h01]; exact h.2.1)
  · exact World.cell?_setCell_same _ _ _ (by rw [World.cell?_setCell_other _ _ _ _ h12, World.cell?_setCell_other _ _ _ _ h02]; exact h.2.2.1)
  · rw [frozen_set, frozen_set, frozen_set]; exact h.2.2.2.1
  · rw [frozen_set, frozen_set, frozen_set]; exact h.2.2.2.2.1
  · rw [frozen_set, frozen_set, frozen_set]; exact h.2.2.2.2.2
theorem blw_drewN {B : Nat} {w w' : World} (h : Below B w w') (n : Nat) : Below B w (w'.drewN n) := ⟨h.os, h.tape, h.output, h.size, h.block⟩
theorem blw_put {w w' : World} {b o : Nat} (u : Value) (hb : w.heap.size ≤ b) (h : Below w.heap.size w w') : Below w.heap.size w (w'.setCell ⟨b, o, none⟩ u) := h.setCell hb u

/-- A region that draws its order, whose operations read and whose calls make new memory alone: one walk, in the order of the text. -/
theorem wp_region_fresh {P : Program} {id : Nat} {Q : Exit → Act → World → Prop} {a : Act} {w : World} {l : List Oper} (hm : P.follows .mixedOrders = true) (hB : Region.lexB .any l.toArray = true)
    (h : wpQuiet P l.toArray (fun w' => Below w.heap.size w w') (fun a' => ∀ w', Below w.heap.size w w' → Q .normal a' w') l a) : (Code.region id l.toArray true).wp P Q a w :=
  wp_region_quiet (C := fun w' => Below w.heap.size w w') hm hB (Below.refl _ _).drew (by simpa using h)
theorem quiet_load {C : World → Prop} {K : Act → Prop} {o : Oper} {a : Act} {b : Nat} {k n : Int} (x : Operand) (ho : o.op = .load 27 x) (ha : a.eval x = .pointer (some ⟨b, 0, none⟩)) (hC : ∀ w', C w' → At w' b k n)
    (hk : K (a.put o.dst (vv k n))) : o.quiet Tryd.prog a C K := by
  refine ⟨_, fun w' hw => ?_, hk⟩
  have h := hC w' hw
  unfold Oper.quietAt
  generalize a.eval = ev at *
  unfold execOp
  rw [ho]
  simp [go_sem, ha, h]
theorem quiet_call {C : World → Prop} {K : Act → Prop} {o : Oper} {a : Act} {f : FuncId} {xs : Array Operand} {ts : Array TypeId} {args : Array Value} {v : Value}
    (ho : o.op = .call { callee := .value (.func f), args := xs, argTypes := ts }) (ha : xs.map a.eval = args) (hr : ∀ w', (callFunc f args).run Tryd.prog w' = .ok (.enter f args) w')
    (hC : ∀ w', C w' → Calls Tryd.prog f args w' fun e w'' => e = .returned v ∧ C w'')
    (hk : K (a.put o.dst v)) : o.quiet Tryd.prog a C K := by
  refine ⟨_, fun w' hw => ?_, hk⟩
  have h := hC w' hw
  unfold Oper.quietAt execOp
  rw [ho]
  simp [go_sem, ha, hr, h]
theorem quiet_call1 {C : World → Prop} {K : Act → Prop} {o : Oper} {a : Act} {f : FuncId} {x : Operand} {ts : Array TypeId} {u v : Value}
    (ho : o.op = .call { callee := .value (.func f), args := #[x], argTypes := ts }) (ha : a.eval x = u) (hr : ∀ w', (callFunc f #[u]).run Tryd.prog w' = .ok (.enter f #[u]) w')
    (hC : ∀ w', C w' → Calls Tryd.prog f #[u] w' fun e w'' => e = .returned v ∧ C w'') (hk : K (a.put o.dst v)) : o.quiet Tryd.prog a C K :=
  quiet_call ho (by simp [ha]) hr hC hk
theorem quiet_call2 {C : World → Prop} {K : Act → Prop} {o : Oper} {a : Act} {f : FuncId} {x y : Operand} {ts : Array TypeId} {u t v : Value}
    (ho : o.op = .call { callee := .value (.func f), args := #[x, y], argTypes := ts }) (ha : a.eval x = u) (hb : a.eval y = t) (hr : ∀ w', (callFunc f #[u, t]).run Tryd.prog w' = .ok (.enter f #[u, t]) w')
    (hC : ∀ w', C w' → Calls Tryd.prog f #[u, t] w' fun e w'' => e = .returned v ∧ C w'') (hk : K (a.put o.dst v)) : o.quiet Tryd.prog a C K :=
  quiet_call ho (by simp [ha, hb]) hr hC hk
theorem quiet_pure {P : Program} {C : World → Prop} {K : Act → Prop} {o : Oper} {a : Act} {v : Value} (h : ∀ w, (execOp a.eval o).run P w = .ok (.value v) w) (hk : K (a.put o.dst v)) : o.quiet P a C K :=
  ⟨v, fun w _ => by unfold Oper.quietAt; rw [h w]; exact ⟨rfl, rfl⟩, hk⟩
theorem run_call26 (u : Value) (w : World) : (callFunc 94 #[u]).run Tryd.prog w = .ok (.enter 94 #[u]) w := by kernel_rfl
theorem mul_at {k1 n1 k2 n2 : Int} {r : Int × Int × Bool} (h1 : Num k1 n1) (h2 : Num k2 n2) (h : Hid (mulR k1 n1 k2 n2 = r)) (w : World) :
    Calls Tryd.prog 79 #[vv k1 n1, vv k2 n2] w fun e w' => e = .returned (vr r) ∧ Below w.heap.size w w' := h.out ▸ mul_any k1 n1 k2 n2 h1 h2 w
theorem div_at {k1 n1 k2 n2 : Int} {r : Int × Int × Bool} (h1 : Num k1 n1) (h2 : Num k2 n2) (h : Hid (divR k1 n1 k2 n2 = r)) (w : World) :
    Calls Tryd.prog 80 #[vv k1 n1, vv k2 n2] w fun e w' => e = .returned (vr r) ∧ Below w.heap.size w w' := h.out ▸ div_any k1 n1 k2 n2 h1 h2 w
theorem add_at {k1 n1 k2 n2 : Int} {r : Int × Int × Bool} (h1 : Num k1 n1) (h2 : Num k2 n2) (h : Hid (addR k1 n1 k2 n2 = r)) (w : World) :
    Calls Tryd.prog 77 #[vv k1 n1, vv k2 n2] w fun e w' => e = .returned (vr r) ∧ Below w.heap.size w w' := h.out ▸ add_any k1 n1 k2 n2 h1 h2 w
theorem sub_at {k1 n1 k2 n2 : Int} {r : Int × Int × Bool} (h1 : Num k1 n1) (h2 : Num k2 n2) (h : Hid (subR k1 n1 k2 n2 = r)) (w : World) :
    Calls Tryd.prog 78 #[vv k1 n1, vv k2 n2] w fun e w' => e = .returned (vr r) ∧ Below w.heap.size w w' := h.out ▸ sub_any k1 n1 k2 n2 h1 h2 w
theorem neg_at {k n k' n' : Int} (h1 : Num k n) (h : Hid (negK k n = k' ∧ negN k n = n')) (w : World) :
    Calls Tryd.prog 94 #[vv k n] w fun e w' => e = .returned (vv k' n') ∧ Below w.heap.size w w' := h.out.1 ▸ h.out.2 ▸ neg_any k n h1 w
end Go.Proofs.YtbkgophgclpijaaDoor.M
