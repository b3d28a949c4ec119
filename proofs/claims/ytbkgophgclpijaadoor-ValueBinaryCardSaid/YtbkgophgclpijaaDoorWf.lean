/- The laws' common start: the example holds. -/
import Derived.Test.YtbkgophgclpijaaDoorWe
import Derived.Deep.DeepCutAuto
namespace Go.Proofs.YtbkgophgclpijaaDoor.W
open Go.RowKit

/-- A region that draws its order, whose operations read and whose calls make new memory alone: one walk, in the order of the text. -/
theorem wp_region_fresh {P : Program} {id : Nat} {Q : Exit → Act → World → Prop} {a : Act} {w : World} {l : List Oper} (hm : P.follows .mixedOrders = true) (hB : Region.lexB .any l.toArray = true)
    (h : wpQuiet P l.toArray (fun w' => Below w.heap.size w w') (fun a' => ∀ w', Below w.heap.size w w' → Q .normal a' w') l a) : (Code.region id l.toArray true).wp P Q a w :=
  wp_region_quiet (C := fun w' => Below w.heap.size w w') hm hB (Below.refl _ _).drew (by simpa using h)
theorem quiet_load27 {C : World → Prop} {K : Act → Prop} {o : Oper} {a : Act} {b : Nat} {k n : Int} {s : ByteArray} (u : Operand) (ho : o.op = .load 27 u) (ha : a.eval u = .pointer (some ⟨b, 0, none⟩))
    (hC : ∀ w', C w' → AtV w' b k n s) (hk : K (a.put o.dst (V k n s))) : o.quiet Tryd.prog a C K := by
  refine ⟨_, fun w' hw => ?_, hk⟩
  have h := hC w' hw
  unfold Oper.quietAt
  generalize a.eval = ev at *
  unfold execOp
  rw [ho]
  simp [go_sem, ha, h]
theorem quiet_call {C : World → Prop} {K : Act → Prop} {o : Oper} {a : Act} {f : FuncId} {xs : Array Operand} {ts : Array TypeId} {args : Array Value} {v : Value}
    (ho : o.op = .call { callee := .value (.func f), args := xs, argTypes := ts }) (ha : xs.map a.eval = args) (hr : ∀ w', (callFunc f args).run Tryd.prog w' = .ok (.enter f args) w')
    (hC : ∀ w', C w' → Calls Tryd.prog f args w' fun e w'' => e = .returned v ∧ C w'')
    (hk : K (a.put o.dst v)) : o.quiet Tryd.prog a C K := by
  refine ⟨_, fun w' hw => ?_, hk⟩
  have h := hC w' hw
  unfold Oper.quietAt execOp
  rw [ho]
  simp [go_sem, ha, hr, h]
theorem quiet_call1 {C : World → Prop} {K : Act → Prop} {o : Oper} {a : Act} {f : FuncId} {x : Operand} {ts : Array TypeId} {u v : Value}
    (ho : o.op = .call { callee := .value (.func f), args := #[x], argTypes := ts }) (ha : a.eval x = u) (hr : ∀ w', (callFunc f #[u]).run Tryd.prog w' = .ok (.enter f #[u]) w')
    (hC : ∀ w', C w' → Calls Tryd.prog f #[u] w' fun e w'' => e = .returned v ∧ C w'') (hk : K (a.put o.dst v)) : o.quiet Tryd.prog a C K :=
  quiet_call ho (by simp [ha]) hr hC hk
theorem quiet_pure {P : Program} {C : World → Prop} {K : Act → Prop} {o : Oper} {a : Act} {v : Value} (h : ∀ w, (execOp a.eval o).run P w = .ok (.value v) w) (hk : K (a.put o.dst v)) : o.quiet P a C K :=
  ⟨v, fun w _ => by unfold Oper.quietAt; rw [h w]; exact ⟨rfl, rfl⟩, hk⟩
theorem run_callVal (u : Value) (w : World) : (callFunc 30 #[u]).run Tryd.prog w = .ok (.enter 30 #[u]) w := by kernel_rfl
theorem run_callTruth (u : Value) (w : World) : (callFunc 34 #[u]).run Tryd.prog w = .ok (.enter 34 #[u]) w := by kernel_rfl
theorem run_callTrue (u : Value) (w : World) : (callFunc 26 #[u]).run Tryd.prog w = .ok (.enter 26 #[u]) w := by kernel_rfl

set_option maxRecDepth 100000 in
set_option maxHeartbeats 2000000 in
theorem fit_any (w : World) : Calls Tryd.prog 10 #[] w fun e w' => e = .returned (.bool true) ∧ Below w.heap.size w w' := by
  have c1 : Hid (ofB ⟨#[97]⟩ = [0, 97]) := by show _ = _; decide +kernel
  have c3 : Hid (ofB ⟨#[97, 49]⟩ = [0, 97, 0, 49]) := by show _ = _; decide +kernel
  go_enter Tryd.func10, Tryd.ntmps10
  go_upto_region 3 with (first | (go_at_call 30; ((with_reducible refine (val_const _ _ (by decide) c1 _).mono ?_); rintro e w1 ⟨rfl, hb1⟩)) | (go_at_call 12; first | ((with_reducible refine (binary_plus _).mono ?_); rintro e w2 ⟨rfl, hb2⟩) | ((with_reducible refine (binary_less _).mono ?_); rintro e w3 ⟨rfl, hb3⟩; have a1 : AtV w3 w2.heap.size 7 0 ⟨#[0, 97, 0, 49]⟩ := AtV.later (AtV.new _ _ _ rfl) hb3)))
  have h2 := blw2 hb1 hb2
  have h3 : Below w.heap.size w w3 := (h2.alloc h2.size _).trans (hb3.mono (by have := h2.size; simp; omega))
  obtain ⟨W, hW⟩ : ∃ W, W = w3.alloc (bxs 2 0 e0) := ⟨_, rfl⟩
  have a3 : AtV W w3.heap.size 2 0 e0 := by rw [hW]; exact AtV.new _ _ _ rfl
  have hBW : Below w.heap.size w W := by rw [hW]; exact h3.alloc h3.size _
  replace a1 : AtV W w2.heap.size 7 0 ⟨#[0, 97, 0, 49]⟩ := by rw [hW]; exact a1.alloc _
  rw [← hW]
  clear hW hb1 hb2 hb3 h2 h3
  refine wp_region_fresh (by kernel_rfl) (by kernel_rfl) ?_
  repeat (first | go_big_quiet_skip | (go_big_quiet_want; (first | (go_big_quiet_op; go_big_quiet_on) | (apply quiet_load27; exact rfl; exact rfl; (intro wq hw9; first | with_reducible exact AtV.later a1 hw9 | with_reducible exact AtV.later a3 hw9); simp only [Act.put, List.setIfInBounds_toArray, List.set_cons_zero, List.set_cons_succ]; go_big_quiet_on) | (refine quiet_call1 (f := 30) (u := .string ⟨#[97, 49]⟩) (v := V 7 0 ⟨#[0, 97, 0, 49]⟩) rfl rfl (run_callVal _) ?_ ?_; (intro wq hw9; exact (val_const _ _ (by decide) c3 wq).mono (fun _ _ hh => ⟨hh.1, blw2 hw9 hh.2⟩)); simp only [Act.put, List.setIfInBounds_toArray, List.set_cons_zero, List.set_cons_succ]; go_big_quiet_on) | (refine quiet_call1 (f := 34) (u := .bool false) (v := V 2 0 e0) rfl rfl (run_callTruth _) ?_ ?_; (intro wq hw9; exact (truth_any false wq).mono (fun _ _ hh => ⟨hh.1, hh.2 ▸ hw9.alloc hw9.size _⟩)); simp only [Act.put, List.setIfInBounds_toArray, List.set_cons_zero, List.set_cons_succ]; go_big_quiet_on) | (refine quiet_call1 (f := 34) (u := .bool true) (v := V 2 1 e0) rfl rfl (run_callTruth _) ?_ ?_; (intro wq hw9; exact (truth_any true wq).mono (fun _ _ hh => ⟨hh.1, hh.2 ▸ hw9.alloc hw9.size _⟩)); simp only [Act.put, List.setIfInBounds_toArray, List.set_cons_zero, List.set_cons_succ]; go_big_quiet_on) | (refine quiet_call1 (f := 26) (u := V 2 1 e0) (v := .bool true) rfl rfl (run_callTrue _) ?_ ?_; (intro wq hw9; exact (true_bool true wq).mono (fun _ _ hh => ⟨hh.1, hh.2 ▸ hw9.alloc hw9.size _⟩)); simp only [Act.put, List.setIfInBounds_toArray, List.set_cons_zero, List.set_cons_succ]; go_big_quiet_on) | (apply quiet_pure; (intro wq; go_simp; exact rfl); simp only [Act.put, List.setIfInBounds_toArray, List.set_cons_zero, List.set_cons_succ]; go_big_quiet_on))))
  refine wpQuiet_nil ?_
  intro w9 hb9
  go_wp2_with fail
  go_ret
  exact ⟨rfl, hBW.trans (hb9.mono hBW.size)⟩
end Go.Proofs.YtbkgophgclpijaaDoor.W
