/- Where three values lie in one block; loads and calls in a region that draws its order, for the reference's numbers. -/
import Derived.Test.YtbkgophgclpijaaDoorMo
import Derived.Lib.SlBytesConst
namespace Go.Proofs.YtbkgophgclpijaaDoor.M
open Go.RowKit

/-- Three values lie in block b. -/
abbrev At3 (w : World) (b : Nat) (u v x : Value) : Prop := w.cell? ⟨b, 0, none⟩ = some u ∧ w.cell? ⟨b, 1, none⟩ = some v ∧ w.cell? ⟨b, 2, none⟩ = some x ∧ Own w b
/-- A number of the reference lies in block b. -/
abbrev Rt (w : World) (b : Nat) (k : Int) (m : Bool) (s : Int) : Prop := At3 w b (.int .u8 k) (.bool m) (.int .i64 s)
theorem At3.lt {W : World} {b : Nat} {u v x : Value} (h : At3 W b u v x) : b < W.heap.size := World.block_lt_of_cell? _ _ h.1
theorem At3.later {W W1 : World} {b : Nat} {u v x : Value} (h : At3 W b u v x) (hb : Below W.heap.size W W1) : At3 W1 b u v x :=
  have hf : ∀ o, W1.frozen? ⟨b, o, none⟩ = W.frozen? ⟨b, o, none⟩ := fun o => hb.frozen (p := ⟨b, o, none⟩) h.lt
  ⟨cell_later hb h.1, cell_later hb h.2.1, cell_later hb h.2.2.1, (hf 0).trans h.2.2.2.1, (hf 1).trans h.2.2.2.2.1, (hf 2).trans h.2.2.2.2.2⟩
theorem At3.alloc {W : World} {b : Nat} {u v x : Value} (h : At3 W b u v x) (o : Obj) : At3 (W.alloc o) b u v x := h.later ((Below.refl _ _).alloc (Nat.le_refl _) o)
theorem At3.drew {W : World} {b : Nat} {u v x : Value} (h : At3 W b u v x) : At3 W.drew b u v x := h
theorem At3.new {W : World} {b : Nat} (u v x : Value) (t : TypeId) (h : W.heap.size = b) : At3 (W.alloc (.cells #[u, v, x] t)) b u v x := by
  subst h
  refine ⟨?_, ?_, ?_, ?_, ?_, ?_⟩ <;> simp
theorem At3.far {W : World} {b b' o : Nat} {u v x y : Value} (h : At3 W b' u v x) (hne : b ≠ b') : At3 (W.setCell ⟨b, o, none⟩ y) b' u v x := by
  have hf : ∀ o', (⟨b, o, none⟩ : Addr) ≠ ⟨b', o', none⟩ := fun o' e => hne (by injection e)
  refine ⟨(World.cell?_setCell_other _ _ _ _ (hf 0)).trans h.1, (World.cell?_setCell_other _ _ _ _ (hf 1)).trans h.2.1, (World.cell?_setCell_other _ _ _ _ (hf 2)).trans h.2.2.1, ?_, ?_, ?_⟩
  · rw [frozen_set]; exact h.2.2.2.1
  · rw [frozen_set]; exact h.2.2.2.2.1
  · rw [frozen_set]; exact h.2.2.2.2.2
theorem At3.put {W : World} {b : Nat} {u v x : Value} (u' v' x' : Value) (h : At3 W b u v x) :
    At3 (((W.setCell ⟨b, 0, none⟩ u').setCell ⟨b, 1, none⟩ v').setCell ⟨b, 2, none⟩ x') b u' v' x' := by
  have h01 : (⟨b, 0, none⟩ : Addr) ≠ ⟨b, 1, none⟩ := by simp
  have h02 : (⟨b, 0, none⟩ : Addr) ≠ ⟨b, 2, none⟩ := by simp
  have h12 : (⟨b, 1, none⟩ : Addr) ≠ ⟨b, 2, none⟩ := by simp
  refine ⟨?_, ?_, ?_, ?_, ?_, ?_⟩
  · rw [World.cell?_setCell_other _ _ _ _ h02.symm, World.cell?_setCell_other _ _ _ _ h01.symm]; exact World.cell?_setCell_same _ _ _ h.1
  · rw [World.cell?_setCell_other _ _ _ _ h12.symm]; exact World.cell?_setCell_same _ _ _ (by rw [World.cell?_setCell_other _ _ _ _ h01]; exact h.2.1)
  · exact World.cell?_setCell_same _ _ _ (by rw [World.cell?_setCell_other _ _ _ _ h12, World.cell?_setCell_other _ _ _ _ h02]; exact h.2.2.1)
  · rw [frozen_set, frozen_set, frozen_set]; exact h.2.2.2.1
  · rw [frozen_set, frozen_set, frozen_set]; exact h.2.2.2.2.1
  · rw [frozen_set, frozen_set, frozen_set]; exact h.2.2.2.2.2
theorem quiet_load27 {C : World → Prop} {K : Act → Prop} {o : Oper} {a : Act} {b : Nat} {k s : Int} {m : Bool} (x : Operand) (ho : o.op = .load 73 x) (ha : a.eval x = .pointer (some ⟨b, 0, none⟩)) (hC : ∀ w', C w' → Rt w' b k m s)
    (hk : K (a.put o.dst (nv k m s))) : o.quiet Tryd.prog a C K := by
  refine ⟨_, fun w' hw => ?_, hk⟩
  have h := hC w' hw
  unfold Oper.quietAt
  generalize a.eval = ev at *
  unfold execOp
  rw [ho]
  simp [go_sem, ha, h]
theorem run_call17 (u : Value) (w : World) : (callFunc 63 #[u]).run Tryd.prog w = .ok (.enter 63 #[u]) w := by kernel_rfl
theorem run_call18 (u v : Value) (w : World) : (callFunc 81 #[u, v]).run Tryd.prog w = .ok (.enter 81 #[u, v]) w := by kernel_rfl
theorem run_call19 (u v : Value) (w : World) : (callFunc 62 #[u, v]).run Tryd.prog w = .ok (.enter 62 #[u, v]) w := by kernel_rfl
/-- The four operators' bytes lie in block b. -/
abbrev Four (w : World) (b : Nat) : Prop := w.cell? ⟨b, 0, none⟩ = some (.int .u8 43) ∧ w.cell? ⟨b, 1, none⟩ = some (.int .u8 45) ∧ w.cell? ⟨b, 2, none⟩ = some (.int .u8 42) ∧ w.cell? ⟨b, 3, none⟩ = some (.int .u8 47)
theorem Four.later {W W1 : World} {b : Nat} (h : Four W b) (hb : Below W.heap.size W W1) : Four W1 b := ⟨cell_later hb h.1, cell_later hb h.2.1, cell_later hb h.2.2.1, cell_later hb h.2.2.2⟩
theorem Four.alloc {W : World} {b : Nat} (h : Four W b) (o : Obj) : Four (W.alloc o) b := h.later ((Below.refl _ _).alloc (Nat.le_refl _) o)
theorem Four.lt {W : World} {b : Nat} (h : Four W b) : b < W.heap.size := World.block_lt_of_cell? _ _ h.1
theorem Four.new {W : World} {b lo hi : Nat} (t : TypeId) (h : W.heap.size = b) : Four (W.alloc (.cells #[.int .u8 43, .int .u8 45, .int .u8 42, .int .u8 47] t (lo, hi))) b := by
  subst h
  refine ⟨?_, ?_, ?_, ?_⟩ <;> (rw [World.cell?_alloc_mark]; rfl)
theorem Four.far {W : World} {b b' o : Nat} {y : Value} (h : Four W b') (hne : b ≠ b') : Four (W.setCell ⟨b, o, none⟩ y) b' := by
  have hf : ∀ o', (⟨b, o, none⟩ : Addr) ≠ ⟨b', o', none⟩ := fun o' e => hne (by injection e)
  exact ⟨(World.cell?_setCell_other _ _ _ _ (hf 0)).trans h.1, (World.cell?_setCell_other _ _ _ _ (hf 1)).trans h.2.1, (World.cell?_setCell_other _ _ _ _ (hf 2)).trans h.2.2.1, (World.cell?_setCell_other _ _ _ _ (hf 3)).trans h.2.2.2⟩
/-- The reference's Do at a known answer of num's operator. -/
theorem do_at {op : Int} {A B : Value} {r : Int × Int × Bool} {k n : Int} {o : Bool} (h : AnsD op A B r) (hr : Hid (r = (k, n, o))) (w : World) :
    Calls Tryd.prog 64 #[.int .u8 op, A, B] w fun e w' => ∃ k' m' s', e = .returned (.tuple #[nv k' m' s', .bool o]) ∧ Hid (o = true → k' = rK k ∧ m' = negB k n ∧ s' = rS k n) ∧ Below w.heap.size w w' := by
  rw [hr.out] at h
  rcases h with ⟨h1, h2⟩ | ⟨h1, k', m', s', h2⟩
  · simp only at h1
    subst h1
    exact (h2 w).mono fun _ _ hh => ⟨_, _, _, hh.1, fun _ => ⟨rfl, rfl, rfl⟩, hh.2⟩
  · simp only at h1
    subst h1
    exact (h2 w).mono fun _ _ hh => ⟨k', m', s', hh.1, (fun (h : false = true) => Bool.noConfusion h : false = true → k' = rK k ∧ m' = negB k n ∧ s' = rS k n), hh.2⟩
theorem rrem_at {k1 n1 k2 n2 k n : Int} (h1 : Num k1 n1) (h2 : Num k2 n2) (h : Hid (remR k1 n1 k2 n2 = (k, n))) (w : World) :
    Calls Tryd.prog 62 #[nvN k1 n1, nvN k2 n2] w fun e w' => e = .returned (nvN k n) ∧ Below w.heap.size w w' := by
  have hh := rrem_any h1 h2 w
  rw [h.out] at hh
  exact hh
end Go.Proofs.YtbkgophgclpijaaDoor.M
