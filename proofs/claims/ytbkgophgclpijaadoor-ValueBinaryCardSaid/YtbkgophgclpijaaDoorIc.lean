/- ValueSame: the walk. -/
import Derived.Test.YtbkgophgclpijaaDoorIb
import Derived.Test.YtbkgophgclpijaaDoorEd
import Derived.Test.YtbkgophgclpijaaDoorEf
import Derived.Test.YtbkgophgclpijaaDoorWf
import Derived.Deep.DeepCutAuto
namespace Go.Proofs.YtbkgophgclpijaaDoor
open Go.RowKit

theorem key_law (x y : Vt) (hx : WV x.1 x.2.1 x.2.2) (hy : WV y.1 y.2.1 y.2.2) : eqB (keyT x) (keyT y) = (eqB x y || zeroT x && zeroT y) := by
  obtain ⟨k, n, s⟩ := x
  obtain ⟨k', n', s'⟩ := y
  have nz : ∀ {k n : Int} {s : ByteArray}, WV k n s → k = 6 → n = 0 ∧ s = W.e0 := by
    intro k n s h e
    obtain ⟨h1, h2⟩ := wv_num h (by omega)
    refine ⟨?_, h2⟩
    rcases h1 with ⟨h1, h3⟩ | ⟨h1, h3⟩ | ⟨h1, h3⟩ | ⟨h1, h3⟩ | ⟨h1, h3, h4⟩ <;> omega
  have is : ∀ {k n : Int} {s : ByteArray}, WV k n s → k = 3 → s = W.e0 := by
    intro k n s h e
    exact (wv_num h (by omega)).2
  unfold eqB zeroT keyT
  simp only at hx hy ⊢
  by_cases h6 : k = 6 <;> by_cases h6' : k' = 6
  · obtain ⟨rfl, rfl⟩ := nz hx h6
    obtain ⟨rfl, rfl⟩ := nz hy h6'
    simp [h6, h6']
  · obtain ⟨rfl, rfl⟩ := nz hx h6
    subst h6
    rw [if_pos rfl, if_neg h6']
    rw [Bool.eq_iff_iff]
    simp only [decide_eq_true_eq, Bool.or_eq_true, Bool.and_eq_true, Prod.mk.injEq]
    constructor
    · rintro ⟨rfl, rfl, rfl⟩; exact .inr ⟨.inl trivial, .inr ⟨rfl, rfl⟩⟩
    · rintro (⟨h, _⟩ | ⟨_, h | ⟨h1, h2⟩⟩)
      · exact absurd h.symm h6'
      · exact absurd h h6'
      · exact ⟨h1.symm, h2.symm, (is hy h1).symm⟩
  · obtain ⟨rfl, rfl⟩ := nz hy h6'
    subst h6'
    rw [if_pos rfl, if_neg h6]
    rw [Bool.eq_iff_iff]
    simp only [decide_eq_true_eq, Bool.or_eq_true, Bool.and_eq_true, Prod.mk.injEq]
    constructor
    · rintro ⟨rfl, rfl, rfl⟩; exact .inr ⟨.inr ⟨rfl, rfl⟩, .inl trivial⟩
    · rintro (⟨h, _⟩ | ⟨h | ⟨h1, h2⟩, _⟩)
      · exact absurd h h6
      · exact absurd h h6
      · exact ⟨h1, h2, is hx h1⟩
  · rw [if_neg h6, if_neg h6', Bool.eq_iff_iff]
    simp only [decide_eq_true_eq, Bool.or_eq_true, Bool.and_eq_true, Prod.mk.injEq]
    constructor
    · exact .inl
    · rintro (h | ⟨h | ⟨h1, h2⟩, h' | ⟨h1', h2'⟩⟩)
      · exact h
      · exact absurd h h6
      · exact absurd h h6
      · exact absurd h' h6'
      · exact ⟨h1.trans h1'.symm, h2.trans h2'.symm, (is hx h1).trans (is hy h1').symm⟩
theorem wv_size {k n : Int} {s : ByteArray} (h : WV k n s) : s.size ≤ 1000000 := by
  have e : W.e0.size = 0 := rfl
  rcases h with ⟨_, _, rfl⟩ | ⟨_, _, rfl⟩ | ⟨_, rfl⟩ | ⟨_, _, l, _, hl, rfl⟩ | ⟨_, _, _, rfl⟩
  · omega
  · omega
  · omega
  · show (l.flatMap W.u2).toArray.size ≤ _
    rw [List.size_toArray, W.flat_length]
    omega
  · omega
theorem key_size {x : Vt} (h : x.2.2.size ≤ 1000000) : (keyT x).2.2.size ≤ 1000000 := by
  unfold keyT
  by_cases h6 : x.1 = 6
  · rw [if_pos h6]; show W.e0.size ≤ _; decide
  · rw [if_neg h6]; exact h
theorem run_Hash (u : Value) (w : World) : (callFunc 19 #[u]).run Tryd.prog w = .ok (.enter 19 #[u]) w := by kernel_rfl
theorem run_Key (u : Value) (w : World) : (callFunc 20 #[u]).run Tryd.prog w = .ok (.enter 20 #[u]) w := by kernel_rfl
theorem run_Strict (u v : Value) (w : World) : (callFunc 15 #[u, v]).run Tryd.prog w = .ok (.enter 15 #[u, v]) w := by kernel_rfl
theorem run_RStrict (u v : Value) (w : World) : (callFunc 16 #[u, v]).run Tryd.prog w = .ok (.enter 16 #[u, v]) w := by kernel_rfl
theorem run_Same (u v : Value) (w : World) : (callFunc 17 #[u, v]).run Tryd.prog w = .ok (.enter 17 #[u, v]) w := by kernel_rfl
theorem run_SameZero (u v : Value) (w : World) : (callFunc 18 #[u, v]).run Tryd.prog w = .ok (.enter 18 #[u, v]) w := by kernel_rfl
theorem quiet_call2 {C : World → Prop} {K : Act → Prop} {o : Oper} {a : Act} {f : FuncId} {x y : Operand} {ts : Array TypeId} {u u2 v : Value}
    (ho : o.op = .call { callee := .value (.func f), args := #[x, y], argTypes := ts }) (ha : a.eval x = u) (ha2 : a.eval y = u2) (hr : ∀ w', (callFunc f #[u, u2]).run Tryd.prog w' = .ok (.enter f #[u, u2]) w')
    (hC : ∀ w', C w' → Calls Tryd.prog f #[u, u2] w' fun e w'' => e = .returned v ∧ C w'') (hk : K (a.put o.dst v)) : o.quiet Tryd.prog a C K :=
  W.quiet_call ho (by simp [ha, ha2]) hr hC hk
theorem key_not6 (x : Vt) : ¬ (keyT x).1 = 6 := by
  unfold keyT
  by_cases h : x.1 = 6
  · rw [if_pos h]; decide
  · rw [if_neg h]; exact h
end Go.Proofs.YtbkgophgclpijaaDoor
