/- fit: a sort of two keys that stand in order already. -/
import Derived.Test.YtbeapojjbgkalaaGreatDoorHb
import Derived.Test.YtbeapojjbgkalaaGreatDoorWe
import Derived.BigQuiet
namespace Go.Proofs.YtbeapojjbgkalaaGreatDoor
open Go Go.RowKit

abbrev k0B : ByteArray := ⟨#[0, 48]⟩
abbrev k1B : ByteArray := ⟨#[0, 49]⟩
theorem ik_0 (w : World) : Calls Tryz.prog 40 #[.int .i64 0] w fun e w' => e = .returned (.agg #[.int .i64 7, .int .i64 0, .string k0B]) ∧ Below w.heap.size w w' := by
  go_enter Tryz.func40, Tryz.ntmps40
  go_wp2_with (first | (go_at_call 76; ((with_reducible refine (W.text_0 _).mono ?_); rintro e wx ⟨rfl, hbx⟩; refine Hid.out ?_)))
  obtain ⟨hc, hf⟩ : (∀ o, wx.cell? ⟨w.heap.size, o, none⟩ = (w.alloc (.cells #[.int .i64 0, .int .i64 0, .string ⟨#[]⟩] 43)).cell? ⟨w.heap.size, o, none⟩) ∧ (∀ o, wx.frozen? ⟨w.heap.size, o, none⟩ = (w.alloc (.cells #[.int .i64 0, .int .i64 0, .string ⟨#[]⟩] 43)).frozen? ⟨w.heap.size, o, none⟩) :=
    ⟨fun o => hbx.cell (p := ⟨w.heap.size, o, none⟩) (by simp), fun o => hbx.frozen (p := ⟨w.heap.size, o, none⟩) (by simp)⟩
  have hB : Below w.heap.size w wx := ((Below.refl _ _).alloc (Nat.le_refl _) _).trans (hbx.mono (by simp))
  have hz : w.heap.size < wx.heap.size := by have := hbx.size; simp at this; omega
  refine Lib.hid ?_
  go_wp2
  refine bodyPost_ret (v := .agg #[.int .i64 7, .int .i64 0, .string k0B]) (by simp [results, Tryz.results40, go_sem, hc]) rfl ⟨rfl, ?_⟩
  exact ((hB.setCell (p := ⟨_, 0, none⟩) (Nat.le_refl _) _).setCell (p := ⟨_, 1, none⟩) (Nat.le_refl _) _).setCell (p := ⟨_, 2, none⟩) (Nat.le_refl _) _
theorem ik_1 (w : World) : Calls Tryz.prog 40 #[.int .i64 1] w fun e w' => e = .returned (.agg #[.int .i64 7, .int .i64 0, .string k1B]) ∧ Below w.heap.size w w' := by
  go_enter Tryz.func40, Tryz.ntmps40
  go_wp2_with (first | (go_at_call 76; ((with_reducible refine (W.text_1 _).mono ?_); rintro e wx ⟨rfl, hbx⟩; refine Hid.out ?_)))
  obtain ⟨hc, hf⟩ : (∀ o, wx.cell? ⟨w.heap.size, o, none⟩ = (w.alloc (.cells #[.int .i64 0, .int .i64 0, .string ⟨#[]⟩] 43)).cell? ⟨w.heap.size, o, none⟩) ∧ (∀ o, wx.frozen? ⟨w.heap.size, o, none⟩ = (w.alloc (.cells #[.int .i64 0, .int .i64 0, .string ⟨#[]⟩] 43)).frozen? ⟨w.heap.size, o, none⟩) :=
    ⟨fun o => hbx.cell (p := ⟨w.heap.size, o, none⟩) (by simp), fun o => hbx.frozen (p := ⟨w.heap.size, o, none⟩) (by simp)⟩
  have hB : Below w.heap.size w wx := ((Below.refl _ _).alloc (Nat.le_refl _) _).trans (hbx.mono (by simp))
  have hz : w.heap.size < wx.heap.size := by have := hbx.size; simp at this; omega
  refine Lib.hid ?_
  go_wp2
  refine bodyPost_ret (v := .agg #[.int .i64 7, .int .i64 0, .string k1B]) (by simp [results, Tryz.results40, go_sem, hc]) rfl ⟨rfl, ?_⟩
  exact ((hB.setCell (p := ⟨_, 0, none⟩) (Nat.le_refl _) _).setCell (p := ⟨_, 1, none⟩) (Nat.le_refl _) _).setCell (p := ⟨_, 2, none⟩) (Nat.le_refl _) _
theorem isNaN_any (x : Int) (w : World) : Calls Tryz.prog 82 #[.int .i64 x] w fun e w' => e = .returned (.bool false) ∧ w' = w := by
  go_enter Tryz.func82, Tryz.ntmps82
  go_wp2
  go_ret
  exact ⟨rfl, rfl⟩
theorem cmp_10 (w : World) : Calls Tryz.prog 45 #[.int .i64 1, .int .i64 0] w fun e w' => e = .returned (.int .i64 1) ∧ w' = w := by
  go_enter Tryz.func45, Tryz.ntmps45
  go_wp2_with (first | (go_at_call 82; ((with_reducible refine (isNaN_any _ _).mono ?_); rintro e w4 ⟨rfl, h4⟩; subst w4)))
  go_ret
  exact ⟨rfl, rfl⟩
theorem idx_0 (w : World) : Calls Tryz.prog 42 #[.string k0B] w fun e w' => e = .returned (.int .i64 0) ∧ ∃ n, w' = w.drewN n := by
  have h := W.index_any k0B (by decide) w
  have e : W.idxU (W.unitsS k0B) = 0 := by decide +kernel
  rw [e] at h
  exact h
theorem idx_1 (w : World) : Calls Tryz.prog 42 #[.string k1B] w fun e w' => e = .returned (.int .i64 1) ∧ ∃ n, w' = w.drewN n := by
  have h := W.index_any k1B (by decide) w
  have e : W.idxU (W.unitsS k1B) = 1 := by decide +kernel
  rw [e] at h
  exact h
theorem cmpf_10 (w : World) : Calls Tryz.prog 44 #[.agg #[.int .i64 7, .int .i64 0, .string k1B], .agg #[.int .i64 7, .int .i64 0, .string k0B]] w fun e w' => e = .returned (.int .i64 1) ∧ Below w.heap.size w w' := by
  have bb : Below w.heap.size w ((w.alloc (.cells #[.int .i64 7, .int .i64 0, .string k1B] 43)).alloc (.cells #[.int .i64 7, .int .i64 0, .string k0B] 43)) := ((Below.refl _ _).alloc (Nat.le_refl _) _).alloc (by simp) _
  go_enter Tryz.func44, Tryz.ntmps44
  go_upto_region 1 with (fail)
  go_quiet (first | (go_at_call 42; first | (with_reducible refine Calls.quiet_of (idx_1 _)) | (with_reducible refine Calls.quiet_of (idx_0 _))) | (go_at_call 45; with_reducible refine Calls.quiet_of_same (cmp_10 _)))
  go_wp2
  go_ret
  exact ⟨rfl, W.below_drewN bb _⟩
/-- Three cells that hold a value. -/
def VAt (w : World) (b o : Nat) (k n : Int) (s : ByteArray) : Prop := w.cell? ⟨b, o, none⟩ = some (.int .i64 k) ∧ w.cell? ⟨b, o + 1, none⟩ = some (.int .i64 n) ∧ w.cell? ⟨b, o + 2, none⟩ = some (.string s)
theorem VAt.later {w w' : World} {b o : Nat} {k n : Int} {s : ByteArray} (h : VAt w b o k n s) (hb : Below w.heap.size w w') : VAt w' b o k n s := by
  have hl : b < w.heap.size := World.block_lt_of_cell? _ _ h.1
  exact ⟨(hb.cell (p := ⟨b, o, none⟩) hl).trans h.1, (hb.cell (p := ⟨b, o + 1, none⟩) hl).trans h.2.1, (hb.cell (p := ⟨b, o + 2, none⟩) hl).trans h.2.2⟩
/-- A region that draws its order, whose operations read and whose calls make new memory alone: one walk, in the order of the text. -/
theorem wp_region_fresh {P : Program} {id : Nat} {Q : Exit → Act → World → Prop} {a : Act} {w : World} {l : List Oper} (hm : P.follows .mixedOrders = true) (hB : Region.lexB .any l.toArray = true)
    (h : wpQuiet P l.toArray (fun w' => Below w.heap.size w w') (fun a' => ∀ w', Below w.heap.size w w' → Q .normal a' w') l a) : (Code.region id l.toArray true).wp P Q a w :=
  wp_region_quiet (C := fun w' => Below w.heap.size w w') hm hB (Below.refl _ _).drew (by simpa using h)
theorem quiet_ld {C : World → Prop} {K : Act → Prop} {o : Oper} {a : Act} {b i : Nat} {k n : Int} {s : ByteArray} (u : Operand) (ho : o.op = .load 43 u) (ha : a.eval u = .pointer (some ⟨b, i, none⟩))
    (hC : ∀ w', C w' → VAt w' b i k n s) (hk : K (a.put o.dst (W.V k n s))) : o.quiet Tryz.prog a C K := by
  refine ⟨_, fun w' hw => ?_, hk⟩
  obtain ⟨h0, h1, h2⟩ := hC w' hw
  unfold Oper.quietAt
  generalize a.eval = ev at *
  unfold execOp
  rw [ho]
  simp [go_sem, ha, h0, h1, h2]
theorem quiet_call {C : World → Prop} {K : Act → Prop} {o : Oper} {a : Act} {f : FuncId} {xs : Array Operand} {ts : Array TypeId} {args : Array Value} {v : Value}
    (ho : o.op = .call { callee := .value (.func f), args := xs, argTypes := ts }) (ha : xs.map a.eval = args) (hr : ∀ w', (callFunc f args).run Tryz.prog w' = .ok (.enter f args) w')
    (hC : ∀ w', C w' → Calls Tryz.prog f args w' fun e w'' => e = .returned v ∧ C w'')
    (hk : K (a.put o.dst v)) : o.quiet Tryz.prog a C K := by
  refine ⟨_, fun w' hw => ?_, hk⟩
  have h := hC w' hw
  unfold Oper.quietAt execOp
  rw [ho]
  simp [go_sem, ha, hr, h]
theorem quiet_callv {C : World → Prop} {K : Act → Prop} {o : Oper} {a : Act} {f : FuncId} {x : Operand} {xs : Array Operand} {ts : Array TypeId} {args : Array Value} {v : Value}
    (ho : o.op = .call { callee := .value x, args := xs, argTypes := ts }) (hx : a.eval x = .func (.func f) #[] #[]) (ha : xs.map a.eval = args) (hr : ∀ w', (callFunc f args).run Tryz.prog w' = .ok (.enter f args) w')
    (hC : ∀ w', C w' → Calls Tryz.prog f args w' fun e w'' => e = .returned v ∧ C w'')
    (hk : K (a.put o.dst v)) : o.quiet Tryz.prog a C K := by
  refine ⟨_, fun w' hw => ?_, hk⟩
  have h := hC w' hw
  unfold Oper.quietAt
  generalize a.eval = ev at *
  unfold execOp
  rw [ho]
  simp [go_sem, ha, hr, h, hx]
theorem quiet_callv2 {C : World → Prop} {K : Act → Prop} {o : Oper} {a : Act} {f : FuncId} {x x1 x2 : Operand} {ts : Array TypeId} {u1 u2 v : Value}
    (ho : o.op = .call { callee := .value x, args := #[x1, x2], argTypes := ts }) (hx : a.eval x = .func (.func f) #[] #[]) (h1 : a.eval x1 = u1) (h2 : a.eval x2 = u2) (hr : ∀ w', (callFunc f #[u1, u2]).run Tryz.prog w' = .ok (.enter f #[u1, u2]) w')
    (hC : ∀ w', C w' → Calls Tryz.prog f #[u1, u2] w' fun e w'' => e = .returned v ∧ C w'') (hk : K (a.put o.dst v)) : o.quiet Tryz.prog a C K :=
  quiet_callv ho hx (by simp [h1, h2]) hr hC hk
theorem quiet_call1 {C : World → Prop} {K : Act → Prop} {o : Oper} {a : Act} {f : FuncId} {x : Operand} {ts : Array TypeId} {u v : Value}
    (ho : o.op = .call { callee := .value (.func f), args := #[x], argTypes := ts }) (ha : a.eval x = u) (hr : ∀ w', (callFunc f #[u]).run Tryz.prog w' = .ok (.enter f #[u]) w')
    (hC : ∀ w', C w' → Calls Tryz.prog f #[u] w' fun e w'' => e = .returned v ∧ C w'') (hk : K (a.put o.dst v)) : o.quiet Tryz.prog a C K :=
  quiet_call ho (by simp [ha]) hr hC hk
theorem quiet_pure {P : Program} {C : World → Prop} {K : Act → Prop} {o : Oper} {a : Act} {v : Value} (h : ∀ w, (execOp a.eval o).run P w = .ok (.value v) w) (hk : K (a.put o.dst v)) : o.quiet P a C K :=
  ⟨v, fun w _ => by unfold Oper.quietAt; rw [h w]; exact ⟨rfl, rfl⟩, hk⟩
theorem run_keys1 (x y : Value) (w : World) : (callFunc 44 #[x, y]).run Tryz.prog w = .ok (.enter 44 #[x, y]) w := by kernel_rfl
/-- The two keys, in a row. -/
abbrev ks2 : List Value := [.int .i64 7, .int .i64 0, .string k0B, .int .i64 7, .int .i64 0, .string k1B]
set_option maxHeartbeats 1000000 in
theorem ins_two (B g cap : Nat) (w : World) (h : w.ownsRow B 43 3 (.slice (some ⟨g, 0, none⟩) 2 cap) 2 ks2) : Calls Tryz.prog 101 #[.slice (some ⟨g, 0, none⟩) 2 cap, .int .i64 0, .int .i64 2, .func (.func 44) #[] #[]] w fun e w' => e = .returned (.tuple #[]) ∧ Below w.heap.size w w' := by
  have c0 : w.cell? ⟨g, 0, none⟩ = some (.int .i64 7) := h.cellAt 0 (by decide)
  have c1 : w.cell? ⟨g, 1, none⟩ = some (.int .i64 0) := h.cellAt 1 (by decide)
  have c2 : w.cell? ⟨g, 2, none⟩ = some (.string k0B) := h.cellAt 2 (by decide)
  have c3 : w.cell? ⟨g, 3, none⟩ = some (.int .i64 7) := h.cellAt 3 (by decide)
  have c4 : w.cell? ⟨g, 4, none⟩ = some (.int .i64 0) := h.cellAt 4 (by decide)
  have c5 : w.cell? ⟨g, 5, none⟩ = some (.string k1B) := h.cellAt 5 (by decide)
  clear h
  go_enter Tryz.func101, Tryz.ntmps101
  go_wp2
  refine wp_loop_rounds 2 ?_
  rw [rounds_succ]
  go_wp2
  refine wp_loop_rounds 1 ?_
  rw [rounds_succ]
  go_wp2
  have v0 : VAt w g 0 7 0 k0B := ⟨c0, c1, c2⟩
  have v3 : VAt w g 3 7 0 k1B := ⟨c3, c4, c5⟩
  clear c0 c1 c2 c3 c4 c5
  refine wp_region_fresh (by kernel_rfl) (by kernel_rfl) ?_
  repeat (first | go_big_quiet_skip | (go_big_quiet_want; (first | (go_big_quiet_op; go_big_quiet_on) | (apply quiet_ld; exact rfl; exact rfl; (intro wq hw9; first | with_reducible exact VAt.later v0 hw9 | with_reducible exact VAt.later v3 hw9); simp only [Act.put, List.setIfInBounds_toArray, List.set_cons_zero, List.set_cons_succ]; go_big_quiet_on) | (refine quiet_callv2 (f := 44) (u1 := W.V 7 0 k1B) (u2 := W.V 7 0 k0B) (v := .int .i64 1) rfl rfl rfl rfl (run_keys1 _ _) ?_ ?_; (intro wq hw9; exact (cmpf_10 wq).mono (fun _ _ hh => ⟨hh.1, blw2 hw9 hh.2⟩)); simp only [Act.put, List.setIfInBounds_toArray, List.set_cons_zero, List.set_cons_succ]; go_big_quiet_on) | (apply quiet_pure; (intro wq; go_simp; exact rfl); simp only [Act.put, List.setIfInBounds_toArray, List.set_cons_zero, List.set_cons_succ]; go_big_quiet_on))))
  refine wpQuiet_nil ?_
  intro w9 hb9
  go_wp2
  rw [rounds_succ]
  go_wp2
  exact bodyPost_end (results_none rfl _ _ _) rfl ⟨rfl, hb9⟩
theorem pdq_two (B g cap : Nat) (lim : Int) (w : World) (h : w.ownsRow B 43 3 (.slice (some ⟨g, 0, none⟩) 2 cap) 2 ks2) : Calls Tryz.prog 80 #[.slice (some ⟨g, 0, none⟩) 2 cap, .int .i64 0, .int .i64 2, .int .i64 lim, .func (.func 44) #[] #[]] w fun e w' => e = .returned (.tuple #[]) ∧ Below w.heap.size w w' := by
  have HI := Veil.mk (ins_two B g cap w h)
  clear h
  go_enter Tryz.func80, Tryz.ntmps80
  go_wp2
  refine wp_loop_rounds 1 ?_
  rw [rounds_succ]
  go_wp2_with (go_at_call 101; ((with_reducible refine HI.out.mono ?_); rintro e w2 ⟨rfl, hb2⟩))
  exact bodyPost_ret (results_none rfl _ _ _) rfl ⟨rfl, hb2⟩
theorem bits_len2 (w : World) : Calls Tryz.prog 81 #[.int .u64 2] w fun e w' => (∃ n : Int, e = .returned (.int .i64 n)) ∧ w' = w := by
  have HL := Veil.mk (fun w => Tryz.bits_Len64 2 w (by decide) (by decide))
  go_enter Tryz.func81, Tryz.ntmps81
  go_wp2_with (go_at_call 110; ((with_reducible refine (HL.out _).mono ?_); rintro e w2 ⟨rfl, h2⟩; subst w2))
  go_ret
  exact ⟨⟨_, rfl⟩, rfl⟩
theorem sort_two (B g cap : Nat) (w : World) (h : w.ownsRow B 43 3 (.slice (some ⟨g, 0, none⟩) 2 cap) 2 ks2) : Calls Tryz.prog 43 #[.slice (some ⟨g, 0, none⟩) 2 cap, .func (.func 44) #[] #[]] w fun e w' => e = .returned (.tuple #[]) ∧ Below w.heap.size w w' := by
  have HI := Veil.mk (fun lim => pdq_two B g cap lim w h)
  clear h
  go_enter Tryz.func43, Tryz.ntmps43
  go_wp2_with (first | (go_at_call 81; ((with_reducible refine (bits_len2 _).mono ?_); rintro e w2 ⟨⟨n, rfl⟩, h2⟩; subst w2)) | (go_at_call 80; ((with_reducible refine (HI.out _).mono ?_); rintro e w3 ⟨rfl, hb3⟩)))
  exact bodyPost_end (results_none rfl _ _ _) rfl ⟨rfl, hb3⟩
end Go.Proofs.YtbeapojjbgkalaaGreatDoor
