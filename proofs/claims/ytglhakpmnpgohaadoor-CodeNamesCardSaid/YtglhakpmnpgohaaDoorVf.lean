/- CodeNames: no two operations have one name. -/
import Derived.Test.YtglhakpmnpgohaaDoorVd
namespace Go.Proofs.YtglhakpmnpgohaaDoor
open Go.RowKit

/-- The names of the operations as one ASCII text. -/
def namesL : List UInt8 := [67, 111, 110, 115, 116, 32, 85, 110, 100, 101, 102, 32, 78, 117, 108, 108, 32, 84, 114, 117, 101, 32, 70, 97, 108, 115, 101, 32, 80, 111, 112, 32, 68, 117, 112, 32, 83, 119, 97, 112, 32, 80, 105, 99, 107, 32, 82, 111, 116, 32, 71, 101, 116, 32, 83, 101, 116, 32, 73, 110, 105, 116, 32, 85, 110, 107, 110, 111, 119, 110, 32, 76, 111, 99, 107, 101, 100, 32, 69, 110, 116, 101, 114, 32, 76, 101, 97, 118, 101, 32, 65, 103, 97, 105, 110, 32, 80, 114, 111, 112, 32, 73, 110, 100, 101, 120, 32, 80, 117, 116, 80, 114, 111, 112, 32, 80, 117, 116, 73, 110, 100, 101, 120, 32, 68, 101, 108, 80, 114, 111, 112, 32, 68, 101, 108, 73, 110, 100, 101, 120, 32, 83, 117, 112, 101, 114, 80, 114, 111, 112, 32, 66, 105, 110, 97, 114, 121, 32, 78, 101, 103, 32, 80, 108, 117, 115, 32, 78, 111, 116, 32, 84, 121, 112, 101, 111, 102, 32, 78, 117, 109, 98, 101, 114, 32, 73, 110, 99, 32, 68, 101, 99, 32, 73, 110, 32, 73, 110, 115, 116, 97, 110, 99, 101, 32, 74, 117, 109, 112, 32, 74, 117, 109, 112, 73, 102, 32, 74, 117, 109, 112, 78, 111, 32, 65, 110, 100, 32, 79, 114, 32, 69, 108, 115, 101, 32, 79, 98, 106, 101, 99, 116, 32, 65, 114, 114, 97, 121, 32, 80, 117, 115, 104, 32, 72, 111, 108, 101, 32, 80, 117, 115, 104, 65, 108, 108, 32, 79, 119, 110, 73, 110, 100, 101, 120, 32, 77, 101, 114, 103, 101, 32, 77, 101, 116, 104, 111, 100, 73, 110, 100, 101, 120, 32, 67, 108, 111, 115, 117, 114, 101, 32, 67, 108, 97, 115, 115, 32, 77, 101, 109, 98, 101, 114, 32, 67, 97, 108, 108, 32, 67, 97, 108, 108, 65, 108, 108, 32, 78, 101, 119, 32, 78, 101, 119, 65, 108, 108, 32, 83, 117, 112, 101, 114, 32, 83, 117, 112, 101, 114, 65, 108, 108, 32, 65, 98, 111, 118, 101, 32, 84, 104, 105, 115, 32, 82, 101, 116, 117, 114, 110, 32, 84, 104, 114, 111, 119, 32, 84, 114, 121, 32, 70, 105, 110, 105, 115, 104, 32, 69, 110, 100, 84, 114, 121, 32, 69, 110, 100, 101, 100, 32, 82, 101, 115, 117, 109, 101, 32, 76, 111, 111, 112, 32, 77, 97, 114, 107, 32, 69, 110, 100, 76, 111, 111, 112, 32, 66, 114, 101, 97, 107, 32, 67, 111, 110, 116, 105, 110, 117, 101, 32, 79, 112, 101, 110, 32, 78, 101, 120, 116, 32, 83, 116, 101, 112, 32, 82, 101, 115, 116, 32, 67, 108, 111, 115, 101, 32, 83, 104, 117, 116, 32, 78, 101, 101, 100, 32, 78, 111, 116, 101, 32, 79, 116, 104, 101, 114, 115, 32, 65, 114, 103, 32, 65, 114, 103, 115, 32, 89, 105, 101, 108, 100, 32, 68, 101, 108, 101, 103, 97, 116, 101, 32, 80, 111, 105, 110, 116, 32, 80, 105, 99, 107, 50, 32, 78, 97, 109, 101]
def nameL (i : Nat) : List UInt8 := (Lib.fields namesL)[i]?.getD []
def nameS (i : Nat) : ByteArray := ⟨(nameL i).toArray⟩
def namesC : Array Value := ((Lib.fields namesL).map fun l => Value.string ⟨l.toArray⟩).toArray
theorem names_length : (Lib.fields namesL).length = 88 := by decide +kernel
theorem namesC_at (k : Nat) (hk : k < 88) : namesC[k]? = some (.string (nameS k)) := by
  unfold namesC nameS nameL
  have hl := names_length
  simp [List.getElem?_eq_getElem (show k < (Lib.fields namesL).length by omega)]
theorem names_ascii : ∀ b ∈ namesL, b.toNat < 128 := by decide +kernel
theorem names_distinct : ∀ i : Fin 88, ∀ j : Fin 88, nameL i.1 = nameL j.1 → i = j := by decide +kernel
theorem fields_names (s : ByteArray) (hs : s.data.toList = namesL) (w : World) (hT : Tb w) :
    Calls Tryd.prog 16 #[.string s] w fun e w' => e = .returned (.slice (some ⟨w.heap.size, 0, none⟩) 88 88) ∧ w.alloc (.cells namesC 9) = w' := by
  have hl : s.size = namesL.length := by rw [← hs]; rfl
  have hl2 : namesL.length = 530 := by decide +kernel
  have h := Tryd.strings_Fields s w (by omega) (fun j b hb => names_ascii b (by rw [hs] at hb; exact List.mem_of_getElem? hb)) hT.now
  rw [hs, names_length] at h
  exact h.mono fun _ _ he => ⟨he.1, he.2.symm⟩
theorem itoa_small (i : Nat) (hi : i < 100) (w : World) :
    Calls Tryd.prog 21 #[.int .i64 (i : Int)] w fun e w' => e = .returned (.string ⟨(Lib.decDigits i).toArray⟩) ∧ w' = w := Tryd.strconv_Itoa_small i hi w

/-- A digit's text. -/
def dg (x : Nat) : ByteArray := ⟨#[UInt8.ofNat (48 + x)]⟩
theorem itoa_dg (x : Nat) (hx : x < 10) (w : World) :
    Calls Tryd.prog 21 #[.int .i64 (x : Int)] w fun e w' => e = .returned (.string (dg x)) ∧ w' = w :=
  (itoa_small x (by omega) w).mono fun _ _ he => by
    have h : Lib.decDigits x = [UInt8.ofNat (48 + x)] := by rw [Lib.decDigits, dif_pos hx]
    rw [h] at he
    exact he
theorem names_short : ∀ i : Fin 88, (nameL i.1).length ≤ 30 := by decide +kernel
theorem nameS_size (i : Nat) (h : i < 88) : (nameS i).size ≤ 30 := by
  have := names_short ⟨i, h⟩
  show (nameL i).toArray.size ≤ 30
  simpa using this
/-- An instruction's text. -/
def showS (i x y : Nat) : ByteArray := (((nameS i ++ ⟨#[32]⟩) ++ dg x) ++ ⟨#[32]⟩) ++ dg y

set_option maxRecDepth 100000 in
set_option maxHeartbeats 2000000 in
theorem show_any (i x y : Nat) (hk : i < 88) (hx : x < 10) (hy : y < 10) (w : World) (hT : Tb w) :
    Calls Tryd.prog 15 #[.agg #[.int .i64 ((i : Int) + 1), .int .i64 (x : Int), .int .i64 (y : Int)]] w fun e w' => e = .returned (.string (showS i x y)) ∧ Below w.heap.size w w' := by
  have hki : (1 : Int) ≤ (i : Int) + 1 := by omega
  have hki2 : (i : Int) + 1 ≤ 88 := by omega
  have hI := itoa_small (i + 1) (by omega)
  rw [show ((i + 1 : Nat) : Int) = (i : Int) + 1 by omega] at hI
  have hBW : Below w.heap.size w (w.alloc (.cells #[.int .i64 ((i : Int) + 1), .int .i64 (x : Int), .int .i64 (y : Int)] 44)) := (Below.refl _ _).alloc (Nat.le_refl _) _
  have hTW : Tb (w.alloc (.cells #[.int .i64 ((i : Int) + 1), .int .i64 (x : Int), .int .i64 (y : Int)] 44)) := hT.on hBW
  go_enter Tryd.func15, Tryd.ntmps15
  go_wp2_with (first | (go_at_call 21; ((with_reducible refine (hI _).mono ?_); rintro e w' ⟨rfl, rfl⟩)))
  obtain ⟨W, hW⟩ : ∃ W, W = w.alloc (.cells #[.int .i64 ((i : Int) + 1), .int .i64 (x : Int), .int .i64 (y : Int)] 44) := ⟨_, rfl⟩
  have c0 : W.cell? ⟨w.heap.size, 0, none⟩ = some (.int .i64 ((i : Int) + 1)) := by rw [hW]; simp
  have c1 : W.cell? ⟨w.heap.size, 1, none⟩ = some (.int .i64 (x : Int)) := by rw [hW]; simp
  have c2 : W.cell? ⟨w.heap.size, 2, none⟩ = some (.int .i64 (y : Int)) := by rw [hW]; simp
  have hsz : w.heap.size < W.heap.size := by rw [hW]; simp
  rw [← hW] at hBW hTW ⊢
  clear hW
  have hidx1 : (0 : Int) ≤ (i : Int) := by omega
  have hidx2 : (i : Int) < 88 := by omega
  have hsub : IntKind.i64.wrap ((i : Int) + 1 - 1) = (i : Int) := by rw [IntKind.wrap_i64]; omega
  have hF : ∀ W', Tb W' → ∀ s : ByteArray, s.data.toList = namesL → Calls Tryd.prog 16 #[.string s] W' fun e w' => e = .returned (.slice (some ⟨W'.heap.size, 0, none⟩) 88 88) ∧ w'.cell? ⟨W'.heap.size, i, none⟩ = some (.string (nameS i)) ∧ Below W'.heap.size W' w' := fun W' hT' s hs => (fields_names s hs W' hT').mono fun e w' ⟨he, hw⟩ => ⟨he, by rw [← hw, World.cell?_alloc_at _ _ _ _ rfl]; exact namesC_at i hk, hw ▸ (Below.refl _ _).alloc (Nat.le_refl _) _⟩
  obtain ⟨s1, j1⟩ : ∃ s1, nameS i ++ ({ data := #[32] } : ByteArray) = s1 := ⟨_, rfl⟩
  obtain ⟨s2, j2⟩ : ∃ s2, s1 ++ dg x = s2 := ⟨_, rfl⟩
  obtain ⟨s3, j3⟩ : ∃ s3, s2 ++ ({ data := #[32] } : ByteArray) = s3 := ⟨_, rfl⟩
  obtain ⟨s4, j4⟩ : ∃ s4, s3 ++ dg y = s4 := ⟨_, rfl⟩
  have hn0 := nameS_size i hk
  have hd : ∀ n, (dg n).size = 1 := fun n => rfl
  have h32 : ({ data := #[32] } : ByteArray).size = 1 := rfl
  have y1 : s1.size ≤ 31 := by rw [← j1, ByteArray.size_append, h32]; omega
  have y2 : s2.size ≤ 32 := by rw [← j2, ByteArray.size_append, hd]; omega
  have y3 : s3.size ≤ 33 := by rw [← j3, ByteArray.size_append, h32]; omega
  have z1 : ¬ 9223372036854775807 < (nameS i).size + ({ data := #[32] } : ByteArray).size := by rw [h32]; omega
  have z2 : ¬ 9223372036854775807 < s1.size + (dg x).size := by rw [hd]; omega
  have z3 : ¬ 9223372036854775807 < s2.size + ({ data := #[32] } : ByteArray).size := by rw [h32]; omega
  have z4 : ¬ 9223372036854775807 < s3.size + (dg y).size := by rw [hd]; omega
  have z1' : ¬ 9223372036854775807 < (nameS i).size + 1 := by omega
  have z2' : ¬ 9223372036854775807 < s1.size + 1 := by omega
  have z3' : ¬ 9223372036854775807 < s2.size + 1 := by omega
  have z4' : ¬ 9223372036854775807 < s3.size + 1 := by omega
  have HR : Hid (showS i x y = s4) := by show _ = _; rw [← j4, ← j3, ← j2, ← j1]; rfl
  clear hd h32 y1 y2 y3 hn0
  have hsub2 : IntKind.i64.wrap (i : Int) = (i : Int) := by rw [IntKind.wrap_i64]; omega
  go_region_with ((go_at_call 16; ((with_reducible refine (hF _ (hTW.on (by repeat (first | (with_reducible exact Below.refl _ _) | (with_reducible refine Below.drew ?_)))) _ (by kernel_rfl)).mono ?_); rintro e wf ⟨rfl, hcf, hbf⟩; have hcf2 : wf.cell? ⟨W.heap.size, i, none⟩ = some (.string (nameS i)) := hcf; have c0f := cell_later hbf c0 (Nat.le_refl _); have c1f := cell_later hbf c1 (Nat.le_refl _); have c2f := cell_later hbf c2 (Nat.le_refl _))))
  all_goals
    go_wp2
    go_quiet ((first | (go_at_call 21; exact Calls.quiet_of_same (itoa_dg x hx _)) | (go_at_call 21; exact Calls.quiet_of_same (itoa_dg y hy _))))
    go_wp2
    go_ret
    exact ⟨ret_sb HR.out.symm, below_drewN ((Below.drew hBW).trans (hbf.mono hBW.size)) _⟩

theorem showS_eq (i x y : Nat) : showS i x y = ⟨(nameL i ++ [32, UInt8.ofNat (48 + x), 32, UInt8.ofNat (48 + y)]).toArray⟩ := by
  unfold showS nameS dg
  apply ByteArray.ext
  simp
theorem show_inj (i j : Nat) (hi : i < 88) (hj : j < 88) (h : showS i 0 0 = showS j 0 0) : i = j := by
  rw [showS_eq, showS_eq] at h
  have h2 : nameL i ++ [32, UInt8.ofNat (48 + 0), 32, UInt8.ofNat (48 + 0)] = nameL j ++ [32, UInt8.ofNat (48 + 0), 32, UInt8.ofNat (48 + 0)] := by
    have := congrArg ByteArray.data h
    simpa using this
  have h3 := List.append_cancel_right h2
  have := names_distinct ⟨i, hi⟩ ⟨j, hj⟩ h3
  simpa using this
theorem show_ne (i x y x' y' : Nat) (h : [32, UInt8.ofNat (48 + x), 32, UInt8.ofNat (48 + y)] ≠ [32, UInt8.ofNat (48 + x'), 32, UInt8.ofNat (48 + y')]) : showS i x y ≠ showS i x' y' := by
  intro e
  rw [showS_eq, showS_eq] at e
  have h2 := congrArg ByteArray.data e
  simp only [Array.mk.injEq, List.append_cancel_left_eq] at h2
  exact h (by simpa using h2)
theorem beq_ne {x y : ByteArray} (hne : ¬ x = y) : (x == y) = false := by
  rw [Bool.eq_false_iff]
  intro h
  have h' : (x.data == y.data) = true := h
  exact hne (ByteArray.ext (by simpa using h'))

/-- A region that draws its order, whose operations read and whose calls make new memory alone: one walk, in the order of the text. -/
theorem wp_region_fresh {P : Program} {id : Nat} {Q : Exit → Act → World → Prop} {a : Act} {w : World} {l : List Oper} (hm : P.follows .mixedOrders = true) (hB : Region.lexB .any l.toArray = true)
    (h : wpQuiet P l.toArray (fun w' => Below w.heap.size w w') (fun a' => ∀ w', Below w.heap.size w w' → Q .normal a' w') l a) : (Code.region id l.toArray true).wp P Q a w :=
  wp_region_quiet (C := fun w' => Below w.heap.size w w') hm hB (Below.refl _ _).drew (by simpa using h)
theorem quiet_load44 {C : World → Prop} {K : Act → Prop} {o : Oper} {a : Act} {b : Nat} {x y z : Int} (u : Operand) (ho : o.op = .load 44 u) (ha : a.eval u = .pointer (some ⟨b, 0, none⟩))
    (hC : ∀ w', C w' → w'.cell? ⟨b, 0, none⟩ = some (.int .i64 x) ∧ w'.cell? ⟨b, 1, none⟩ = some (.int .i64 y) ∧ w'.cell? ⟨b, 2, none⟩ = some (.int .i64 z))
    (hk : K (a.put o.dst (.agg #[.int .i64 x, .int .i64 y, .int .i64 z]))) : o.quiet Tryd.prog a C K := by
  refine ⟨_, fun w' hw => ?_, hk⟩
  have h := hC w' hw
  unfold Oper.quietAt
  generalize a.eval = ev at *
  unfold execOp
  rw [ho]
  simp [go_sem, ha, h]
theorem quiet_load3 {C : World → Prop} {K : Act → Prop} {o : Oper} {a : Act} {ad : Addr} {x : Int} (u : Operand) (ho : o.op = .load 3 u) (ha : a.eval u = .pointer (some ad))
    (hC : ∀ w', C w' → w'.cell? ad = some (.int .i64 x)) (hk : K (a.put o.dst (.int .i64 x))) : o.quiet Tryd.prog a C K := by
  refine ⟨_, fun w' hw => ?_, hk⟩
  have h := hC w' hw
  unfold Oper.quietAt
  generalize a.eval = ev at *
  unfold execOp
  rw [ho]
  simp [go_sem, ha, h]
theorem quiet_call {C : World → Prop} {K : Act → Prop} {o : Oper} {a : Act} {f : FuncId} {xs : Array Operand} {ts : Array TypeId} {args : Array Value} {v : Value}
    (ho : o.op = .call { callee := .value (.func f), args := xs, argTypes := ts }) (ha : xs.map a.eval = args) (hr : ∀ w', (callFunc f args).run Tryd.prog w' = .ok (.enter f args) w')
    (hC : ∀ w', C w' → Calls Tryd.prog f args w' fun e w'' => e = .returned v ∧ C w'')
    (hk : K (a.put o.dst v)) : o.quiet Tryd.prog a C K := by
  refine ⟨_, fun w' hw => ?_, hk⟩
  have h := hC w' hw
  unfold Oper.quietAt execOp
  rw [ho]
  simp [go_sem, ha, hr, h]
theorem quiet_call1 {C : World → Prop} {K : Act → Prop} {o : Oper} {a : Act} {f : FuncId} {x : Operand} {ts : Array TypeId} {u v : Value}
    (ho : o.op = .call { callee := .value (.func f), args := #[x], argTypes := ts }) (ha : a.eval x = u) (hr : ∀ w', (callFunc f #[u]).run Tryd.prog w' = .ok (.enter f #[u]) w')
    (hC : ∀ w', C w' → Calls Tryd.prog f #[u] w' fun e w'' => e = .returned v ∧ C w'') (hk : K (a.put o.dst v)) : o.quiet Tryd.prog a C K :=
  quiet_call ho (by simp [ha]) hr hC hk
theorem quiet_pure {P : Program} {C : World → Prop} {K : Act → Prop} {o : Oper} {a : Act} {v : Value} (h : ∀ w, (execOp a.eval o).run P w = .ok (.value v) w) (hk : K (a.put o.dst v)) : o.quiet P a C K :=
  ⟨v, fun w _ => by unfold Oper.quietAt; rw [h w]; exact ⟨rfl, rfl⟩, hk⟩
theorem run_callShow (u : Value) (w : World) : (callFunc 15 #[u]).run Tryd.prog w = .ok (.enter 15 #[u]) w := by kernel_rfl
end Go.Proofs.YtglhakpmnpgohaaDoor
