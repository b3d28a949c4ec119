/- The laws' common start: the example holds. -/
import Derived.Test.YtbeapojjbgkalaaGreatDoorKd
import Derived.LaidEqlPtr
namespace Go.Proofs.YtbeapojjbgkalaaGreatDoor
open Go Go.RowKit

theorem run_valF (u : Value) (w : World) : (callFunc 15 #[u]).run Tryz.prog w = .ok (.enter 15 #[u]) w := by kernel_rfl
theorem run_objF (x y : Value) (w : World) : (callFunc 9 #[x, y]).run Tryz.prog w = .ok (.enter 9 #[x, y]) w := by kernel_rfl
theorem quiet_call2 {C : World → Prop} {K : Act → Prop} {o : Oper} {a : Act} {f : FuncId} {x1 x2 : Operand} {ts : Array TypeId} {u1 u2 v : Value}
    (ho : o.op = .call { callee := .value (.func f), args := #[x1, x2], argTypes := ts }) (h1 : a.eval x1 = u1) (h2 : a.eval x2 = u2) (hr : ∀ w', (callFunc f #[u1, u2]).run Tryz.prog w' = .ok (.enter f #[u1, u2]) w')
    (hC : ∀ w', C w' → Calls Tryz.prog f #[u1, u2] w' fun e w'' => e = .returned v ∧ C w'') (hk : K (a.put o.dst v)) : o.quiet Tryz.prog a C K :=
  quiet_call ho (by simp [h1, h2]) hr hC hk
theorem Tryz.infoO : (Tryz.prog.info? 68).isSome = true := by kernel_rfl
theorem eql_obj (nb : Nat) (w : World) : (binOp .eql 35 (.pointer (some ⟨nb, 0, none⟩)) (.pointer (some ⟨nb, 0, none⟩))).run Tryz.prog w = .ok (.bool true) w := by
  obtain ⟨j, hj⟩ := Option.isSome_iff_exists.1 Tryz.infoO
  exact run_eql_ptr_same w ⟨nb, 0, none⟩ Tryz.underlying35 hj
set_option maxRecDepth 100000 in
set_option maxHeartbeats 2000000 in
theorem fit_any (w : World) : Calls Tryz.prog 5 #[] w fun e w' => e = .returned (.bool true) ∧ Below w.heap.size w w' := by
  have c1 : Hid (W.ofB ⟨#[49]⟩ = [0, 49]) := by show _ = _; decide +kernel
  have c3 : Hid (W.ofB ⟨#[108, 101, 110, 103, 116, 104]⟩ = [0, 108, 0, 101, 0, 110, 0, 103, 0, 116, 0, 104]) := by show _ = _; decide +kernel
  have HN := Veil.mk (heap_new w)
  go_enter Tryz.func5, Tryz.ntmps5
  go_upto_region 4 with (go_at_call 6; ((with_reducible refine HN.out.mono ?_); rintro e w1 ⟨h, rfl, hb1, hp1⟩))
  have HM := Veil.mk (heap_make hp1 1 0 rfl (by decide) (by decide))
  have HB1 := Veil.mk hb1
  clear hp1 hb1 HN
  go_upto_region 7 with (go_at_call 22; ((with_reducible refine HM.out.mono ?_); rintro e w2 ⟨rfl, hbo, ht2, cv, fv, rv, hp2, hf2⟩))
  obtain ⟨nb, hnb⟩ : ∃ nb, w1.heap.size = nb := ⟨_, rfl⟩
  rw [hnb] at hbo hp2 ⊢
  have hB2 : Below w.heap.size w w2 := HB1.out.trans (ht2.below HB1.out.size (fun k hk => by
    rcases hk with hk | hk | hk | hk
    · omega
    · cases hk
    · cases hk
    · cases hk))
  have hnbw : w.heap.size ≤ nb := by have := HB1.out.size; omega
  obtain ⟨ge, hge⟩ : ∃ ge, w2.heap.size = ge := ⟨_, rfl⟩
  have bg := Box.new w2 43 #[.int .i64 0, .int .i64 0, .string ⟨#[]⟩, .int .i64 0, .int .i64 0, .string ⟨#[]⟩]
  have hal : Below w2.heap.size w2 (w2.alloc (.cells #[.int .i64 0, .int .i64 0, .string ⟨#[]⟩, .int .i64 0, .int .i64 0, .string ⟨#[]⟩] 43)) := (Below.refl _ _).alloc (Nat.le_refl _) _
  have bo := hbo.below hal
  have hpa : HpAt (w2.alloc (.cells #[.int .i64 0, .int .i64 0, .string ⟨#[]⟩, .int .i64 0, .int .i64 0, .string ⟨#[]⟩] 43)) w.heap.size h w.heap.size cv fv rv _ := ⟨hp2.hb.below hal, hp2.ar.on hal, hp2.hB⟩
  have tp := Touch.put (S := fun k => k = nb) (w := w2.alloc (.cells #[.int .i64 0, .int .i64 0, .string ⟨#[]⟩, .int .i64 0, .int .i64 0, .string ⟨#[]⟩] 43)) rfl 4 (.slice (some ⟨w2.heap.size, 0, none⟩) 2 2)
  have bo3 := bo.put 4 (.slice (some ⟨w2.heap.size, 0, none⟩) 2 2)
  have bg3 := bg.touch tp (by have := hbo.lt; omega)
  have hp3 : HpAt _ w.heap.size h w.heap.size cv fv rv _ := ⟨hpa.hb.touch tp (fun e => by have := hpa.hb.lab.ne bo.lab (by decide); omega), hpa.ar.touch tp (fun k hk e => AFoot.lab hpa.ar (e ▸ bo.lab) (by decide) (by decide) (by decide) hk), hpa.hB⟩
  have hB3 : Below w.heap.size w _ := hB2.trans ((hal.mono hB2.size).trans (tp.below (by rw [World.size_alloc]; have := hB2.size; omega) (fun j hj => by omega)))
  have o4 : (w2.alloc (.cells #[.int .i64 0, .int .i64 0, .string ⟨#[]⟩, .int .i64 0, .int .i64 0, .string ⟨#[]⟩] 43)).cell? ⟨nb, 4, none⟩ = some (.slice none 0 0) := bo.at_ 4
  have o4f := bo.free 4
  obtain ⟨W3, hW3⟩ : ∃ W3, (w2.alloc (.cells #[.int .i64 0, .int .i64 0, .string ⟨#[]⟩, .int .i64 0, .int .i64 0, .string ⟨#[]⟩] 43)).setCell ⟨nb, 4, none⟩ (.slice (some ⟨w2.heap.size, 0, none⟩) 2 2) = W3 := ⟨_, rfl⟩
  rw [hW3] at bo3 bg3 hp3 hB3
  rw [hge] at bo3 bg3
  have HK := Veil.mk (keys_fit bo3 bg3)
  have HP3 := Veil.mk (And.intro hp3 hB3)
  have HW3 := Veil.mk hW3
  clear hbo ht2 hp2 hf2 hnb hB2 hge bg hal bo hpa tp bo3 bg3 hp3 hB3 HM HB1 hW3
  go_upto_region 8 with (fail)
  rw [HW3.out]
  clear o4 o4f HW3
  go_upto_region 9 with (go_at_call 10; ((with_reducible refine HK.out.mono ?_); rintro e w4 ⟨g, cap, rfl, ho4, hb4⟩))
  have v3 : VAt w4 g 3 7 0 k1B := ⟨ho4.cellAt 3 (by decide), ho4.cellAt 4 (by decide), ho4.cellAt 5 (by decide)⟩
  have v6 : VAt w4 g 6 7 0 lenB := ⟨ho4.cellAt 6 (by decide), ho4.cellAt 7 (by decide), ho4.cellAt 8 (by decide)⟩
  have hp4 : HpAt w4 w.heap.size h w.heap.size cv fv rv _ := ⟨HP3.out.1.hb.below hb4, HP3.out.1.ar.on hb4, HP3.out.1.hB⟩
  have HO1 : Veil (∀ wq, Below w4.heap.size w4 wq → Calls Tryz.prog 9 #[.pointer (some ⟨h, 0, none⟩), .int .i64 1] wq fun e w' => e = .returned (.pointer (some ⟨nb, 0, none⟩)) ∧ w' = wq) := ⟨fun wq hb => obj_some (show HpAt wq w.heap.size h w.heap.size cv fv rv _ from ⟨hp4.hb.below hb, hp4.ar.on hb, hp4.hB⟩) 1 nb rfl⟩
  have HO2 : Veil (∀ wq, Below w4.heap.size w4 wq → Calls Tryz.prog 9 #[.pointer (some ⟨h, 0, none⟩), .int .i64 2] wq fun e w' => e = .returned (.pointer none) ∧ w' = wq) := ⟨fun wq hb => obj_none (show HpAt wq w.heap.size h w.heap.size cv fv rv _ from ⟨hp4.hb.below hb, hp4.ar.on hb, hp4.hB⟩) 2 rfl⟩
  have HB4 := Veil.mk (HP3.out.2.trans (hb4.mono HP3.out.2.size))
  clear ho4 hb4 hp4 HP3 HK
  refine wp_region_fresh (by kernel_rfl) (by kernel_rfl) ?_
  repeat (first | go_big_quiet_skip | (go_big_quiet_want; (first | (go_big_quiet_op; go_big_quiet_on) | (apply quiet_ld; exact rfl; exact rfl; (intro wq hw9; first | with_reducible exact VAt.later v3 hw9 | with_reducible exact VAt.later v6 hw9); simp only [Act.put, List.setIfInBounds_toArray, List.set_cons_zero, List.set_cons_succ]; go_big_quiet_on) | (refine quiet_call1 (f := 15) (u := .string ⟨#[49]⟩) (v := sV k1B) rfl rfl (run_valF _) ?_ ?_; (intro wq hw9; exact (W.val_const _ _ (by decide) c1 wq).mono (fun _ _ hh => ⟨hh.1, blw2 hw9 hh.2⟩)); simp only [Act.put, List.setIfInBounds_toArray, List.set_cons_zero, List.set_cons_succ]; go_big_quiet_on) | (refine quiet_call1 (f := 15) (u := .string ⟨#[108, 101, 110, 103, 116, 104]⟩) (v := sV lenB) rfl rfl (run_valF _) ?_ ?_; (intro wq hw9; exact (W.val_const _ _ (by decide) c3 wq).mono (fun _ _ hh => ⟨hh.1, blw2 hw9 hh.2⟩)); simp only [Act.put, List.setIfInBounds_toArray, List.set_cons_zero, List.set_cons_succ]; go_big_quiet_on) | (refine quiet_call2 (f := 9) (u1 := .pointer (some ⟨h, 0, none⟩)) (u2 := .int .i64 1) (v := .pointer (some ⟨nb, 0, none⟩)) rfl rfl rfl (run_objF _ _) ?_ ?_; (intro wq hw9; exact (HO1.out wq hw9).mono (fun _ _ hh => ⟨hh.1, hh.2 ▸ hw9⟩)); simp only [Act.put, List.setIfInBounds_toArray, List.set_cons_zero, List.set_cons_succ]; go_big_quiet_on) | (refine quiet_call2 (f := 9) (u1 := .pointer (some ⟨h, 0, none⟩)) (u2 := .int .i64 2) (v := .pointer none) rfl rfl rfl (run_objF _ _) ?_ ?_; (intro wq hw9; exact (HO2.out wq hw9).mono (fun _ _ hh => ⟨hh.1, hh.2 ▸ hw9⟩)); simp only [Act.put, List.setIfInBounds_toArray, List.set_cons_zero, List.set_cons_succ]; go_big_quiet_on) | (refine quiet_pure (v := .bool true) ?_ ?_; (intro wq; have hq := eql_obj nb wq; go_simp); simp only [Act.put, List.setIfInBounds_toArray, List.set_cons_zero, List.set_cons_succ]; go_big_quiet_on) | (apply quiet_pure; (intro wq; go_simp; exact rfl); simp only [Act.put, List.setIfInBounds_toArray, List.set_cons_zero, List.set_cons_succ]; go_big_quiet_on))))
  refine wpQuiet_nil ?_
  intro w9 hb9
  go_wp2_with fail
  go_ret
  exact ⟨rfl, HB4.out.trans (hb9.mono HB4.out.size)⟩
end Go.Proofs.YtbeapojjbgkalaaGreatDoor
