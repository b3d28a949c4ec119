/- Package heap: Env, Of. -/
import Derived.Test.YtbeapojjbgkalaaGreatDoorSm
namespace Go.Proofs.YtbeapojjbgkalaaGreatDoor
open Go Go.RowKit

theorem object_mk (r : Int) (w : World) : Calls Tryz.prog 19 #[.int .i64 r] w fun e w' => e = .returned (valV (9, r, ⟨#[]⟩)) ∧ Below w.heap.size w w' := by
  obtain ⟨vb, hvb⟩ : ∃ vb, w.heap.size = vb := ⟨_, rfl⟩
  obtain ⟨W0, hW0⟩ : ∃ W0, w.alloc (.cells #[.int .i64 0, .int .i64 0, .string ⟨#[]⟩] 43) = W0 := ⟨_, rfl⟩
  have b1 := Box.new w 43 #[.int .i64 0, .int .i64 0, .string ⟨#[]⟩]
  have bb : Below w.heap.size w (w.alloc (.cells #[.int .i64 0, .int .i64 0, .string ⟨#[]⟩] 43)) := (Below.refl _ _).alloc (Nat.le_refl _) _
  rw [hW0] at b1 bb
  rw [hvb] at b1 bb ⊢
  have HW0 := Veil.mk (And.intro hW0 hvb)
  have HBB := Veil.mk (And.intro bb b1)
  have z0 : W0.cell? ⟨vb, 0, none⟩ = some (.int .i64 0) := b1.at_ 0
  have z1 : W0.cell? ⟨vb, 1, none⟩ = some (.int .i64 0) := b1.at_ 1
  have z2 : W0.cell? ⟨vb, 2, none⟩ = some (.string ⟨#[]⟩) := b1.at_ 2
  have f0 := b1.free 0
  have f1 := b1.free 1
  have f2 := b1.free 2
  clear hW0 hvb b1 bb
  go_enter Tryz.func19, Tryz.ntmps19
  go_upto_region 1 with (fail)
  rw [HW0.out.1, HW0.out.2]
  go_wp2
  have hr3 := ((HBB.out.2.put 0 (.int .i64 9)).put 1 (.int .i64 r)).put 2 (.string ⟨#[]⟩)
  have y0 := hr3.at_ 0
  have y1 := hr3.at_ 1
  have y2 := hr3.at_ 2
  exact bodyPost_ret (v := valV (9, r, ⟨#[]⟩)) (by simp [results, Tryz.results19, go_sem, y0, y1, y2]) rfl ⟨rfl, ((HBB.out.1.setCell (p := ⟨vb, 0, none⟩) (Nat.le_refl _) _).setCell (p := ⟨vb, 1, none⟩) (Nat.le_refl _) _).setCell (p := ⟨vb, 2, none⟩) (Nat.le_refl _) _⟩
theorem as_env (e : Nat) (W : World) : (Instr.typeAssert (.iface 48 (.pointer (some ⟨e, 0, none⟩))) 87 48 true).run Tryz.prog W = .ok (.tuple #[.pointer (some ⟨e, 0, none⟩), .bool true]) W := by kernel_rfl
theorem as_noobj (e : Nat) (W : World) : (Instr.typeAssert (.iface 48 (.pointer (some ⟨e, 0, none⟩))) 87 35 true).run Tryz.prog W = .ok (.tuple #[.pointer none, .bool false]) W := by kernel_rfl
set_option maxRecDepth 100000 in
theorem env_some {w : World} {B h A : Nat} {cv fv rv : Value} {d : AD} (hp : HpAt w B h A cv fv rv d) (r : Int) (e : Nat) (hr : d.get r = some (envB e)) : Calls Tryz.prog 16 #[.pointer (some ⟨h, 0, none⟩), .int .i64 r] w fun e9 w' => e9 = .returned (.pointer (some ⟨e, 0, none⟩)) ∧ w' = w := by
  have hg := get_any B A cv fv rv d r w hp.ar
  rw [hr] at hg
  have HG := Veil.mk hg
  have h0 : w.cell? ⟨h, 0, none⟩ = some (.pointer (some ⟨A, 0, none⟩)) := hp.hb.at_ 0
  clear hp hr hg
  have ha := as_env e
  go_enter Tryz.func16, Tryz.ntmps16
  go_wp2_with (first | (go_at_call 39; ((with_reducible refine HG.out.mono ?_); rintro e w4 ⟨rfl, h4⟩; subst w4; simp only [bodyV])))
  go_ret
  exact ⟨rfl, rfl⟩
set_option maxRecDepth 100000 in
theorem obj_env {w : World} {B h A : Nat} {cv fv rv : Value} {d : AD} (hp : HpAt w B h A cv fv rv d) (r : Int) (e : Nat) (hr : d.get r = some (envB e)) : Calls Tryz.prog 9 #[.pointer (some ⟨h, 0, none⟩), .int .i64 r] w fun e9 w' => e9 = .returned (.pointer none) ∧ w' = w := by
  have hg := get_any B A cv fv rv d r w hp.ar
  rw [hr] at hg
  have HG := Veil.mk hg
  have h0 : w.cell? ⟨h, 0, none⟩ = some (.pointer (some ⟨A, 0, none⟩)) := hp.hb.at_ 0
  clear hp hr hg
  have ha := as_noobj e
  go_enter Tryz.func9, Tryz.ntmps9
  go_wp2_with (first | (go_at_call 39; ((with_reducible refine HG.out.mono ?_); rintro e w4 ⟨rfl, h4⟩; subst w4; simp only [bodyV])))
  go_ret
  exact ⟨rfl, rfl⟩
set_option maxRecDepth 100000 in
theorem isobj_8 (x : Vt) (hx : x.1 = 8) (w : World) : Calls Tryz.prog 55 #[valV x] w fun e w' => e = .returned (.bool false) ∧ Below w.heap.size w w' := by
  have b1 := Box.new w 43 #[.int .i64 x.1, .int .i64 x.2.1, .string x.2.2]
  have bb : Below w.heap.size w (w.alloc (.cells #[.int .i64 x.1, .int .i64 x.2.1, .string x.2.2] 43)) := (Below.refl _ _).alloc (Nat.le_refl _) _
  obtain ⟨kb, hkb⟩ : ∃ kb, w.heap.size = kb := ⟨_, rfl⟩
  obtain ⟨W0, hW0⟩ : ∃ W0, w.alloc (.cells #[.int .i64 x.1, .int .i64 x.2.1, .string x.2.2] 43) = W0 := ⟨_, rfl⟩
  rw [hW0] at b1 bb
  have HW0 := Veil.mk (And.intro hW0 hkb)
  rw [hkb] at b1
  have HBB := Veil.mk (And.intro bb b1)
  have x0 : W0.cell? ⟨kb, 0, none⟩ = some (.int .i64 x.1) := b1.at_ 0
  have x1 : W0.cell? ⟨kb, 1, none⟩ = some (.int .i64 x.2.1) := b1.at_ 1
  have x2 : W0.cell? ⟨kb, 2, none⟩ = some (.string x.2.2) := b1.at_ 2
  clear hW0 hkb b1 bb
  rw [hx] at x0
  clear hx
  go_enter Tryz.func55, Tryz.ntmps55
  go_upto_region 1 with (fail)
  rw [HW0.out.1, HW0.out.2]
  go_wp2
  go_ret
  exact ⟨rfl, HBB.out.1⟩
set_option maxRecDepth 100000 in
theorem isobj_9 (x : Vt) (hx : x.1 = 9) (w : World) : Calls Tryz.prog 55 #[valV x] w fun e w' => e = .returned (.bool true) ∧ Below w.heap.size w w' := by
  have b1 := Box.new w 43 #[.int .i64 x.1, .int .i64 x.2.1, .string x.2.2]
  have bb : Below w.heap.size w (w.alloc (.cells #[.int .i64 x.1, .int .i64 x.2.1, .string x.2.2] 43)) := (Below.refl _ _).alloc (Nat.le_refl _) _
  obtain ⟨kb, hkb⟩ : ∃ kb, w.heap.size = kb := ⟨_, rfl⟩
  obtain ⟨W0, hW0⟩ : ∃ W0, w.alloc (.cells #[.int .i64 x.1, .int .i64 x.2.1, .string x.2.2] 43) = W0 := ⟨_, rfl⟩
  rw [hW0] at b1 bb
  have HW0 := Veil.mk (And.intro hW0 hkb)
  rw [hkb] at b1
  have HBB := Veil.mk (And.intro bb b1)
  have x0 : W0.cell? ⟨kb, 0, none⟩ = some (.int .i64 x.1) := b1.at_ 0
  have x1 : W0.cell? ⟨kb, 1, none⟩ = some (.int .i64 x.2.1) := b1.at_ 1
  have x2 : W0.cell? ⟨kb, 2, none⟩ = some (.string x.2.2) := b1.at_ 2
  clear hW0 hkb b1 bb
  rw [hx] at x0
  clear hx
  go_enter Tryz.func55, Tryz.ntmps55
  go_upto_region 1 with (fail)
  rw [HW0.out.1, HW0.out.2]
  go_wp2
  go_ret
  exact ⟨rfl, HBB.out.1⟩
set_option maxRecDepth 100000 in
theorem ref_9 (x : Vt) (hx : x.1 = 9) (w : World) : Calls Tryz.prog 56 #[valV x] w fun e w' => e = .returned (.int .i64 x.2.1) ∧ Below w.heap.size w w' := by
  have b1 := Box.new w 43 #[.int .i64 x.1, .int .i64 x.2.1, .string x.2.2]
  have bb : Below w.heap.size w (w.alloc (.cells #[.int .i64 x.1, .int .i64 x.2.1, .string x.2.2] 43)) := (Below.refl _ _).alloc (Nat.le_refl _) _
  obtain ⟨kb, hkb⟩ : ∃ kb, w.heap.size = kb := ⟨_, rfl⟩
  obtain ⟨W0, hW0⟩ : ∃ W0, w.alloc (.cells #[.int .i64 x.1, .int .i64 x.2.1, .string x.2.2] 43) = W0 := ⟨_, rfl⟩
  rw [hW0] at b1 bb
  have HW0 := Veil.mk (And.intro hW0 hkb)
  rw [hkb] at b1
  have HBB := Veil.mk (And.intro bb b1)
  have x0 : W0.cell? ⟨kb, 0, none⟩ = some (.int .i64 x.1) := b1.at_ 0
  have x1 : W0.cell? ⟨kb, 1, none⟩ = some (.int .i64 x.2.1) := b1.at_ 1
  have x2 : W0.cell? ⟨kb, 2, none⟩ = some (.string x.2.2) := b1.at_ 2
  clear hW0 hkb b1 bb
  rw [hx] at x0
  clear hx
  go_enter Tryz.func56, Tryz.ntmps56
  go_upto_region 1 with (fail)
  rw [HW0.out.1, HW0.out.2]
  go_wp2
  go_ret
  exact ⟨rfl, HBB.out.1⟩
set_option maxRecDepth 100000 in
theorem of_8 (h : Nat) (x : Vt) (hx : x.1 = 8) (w : World) : Calls Tryz.prog 18 #[.pointer (some ⟨h, 0, none⟩), valV x] w fun e w' => e = .returned (.pointer none) ∧ Below w.heap.size w w' := by
  have HI := Veil.mk (fun w => isobj_8 x hx w)
  have b1 := Box.new w 43 #[.int .i64 x.1, .int .i64 x.2.1, .string x.2.2]
  have bb : Below w.heap.size w (w.alloc (.cells #[.int .i64 x.1, .int .i64 x.2.1, .string x.2.2] 43)) := (Below.refl _ _).alloc (Nat.le_refl _) _
  obtain ⟨kb, hkb⟩ : ∃ kb, w.heap.size = kb := ⟨_, rfl⟩
  obtain ⟨W0, hW0⟩ : ∃ W0, w.alloc (.cells #[.int .i64 x.1, .int .i64 x.2.1, .string x.2.2] 43) = W0 := ⟨_, rfl⟩
  rw [hW0] at b1 bb
  have HW0 := Veil.mk (And.intro hW0 hkb)
  rw [hkb] at b1
  have HBB := Veil.mk (And.intro bb b1)
  have x0 : W0.cell? ⟨kb, 0, none⟩ = some (.int .i64 x.1) := b1.at_ 0
  have x1 : W0.cell? ⟨kb, 1, none⟩ = some (.int .i64 x.2.1) := b1.at_ 1
  have x2 : W0.cell? ⟨kb, 2, none⟩ = some (.string x.2.2) := b1.at_ 2
  clear hW0 hkb b1 bb
  clear hx
  go_enter Tryz.func18, Tryz.ntmps18
  go_upto_region 1 with (fail)
  rw [HW0.out.1, HW0.out.2]
  go_wp2_with (go_at_call 55; ((with_reducible refine (HI.out _).mono ?_); rintro e w4 ⟨rfl, h4⟩))
  go_ret
  exact ⟨rfl, HBB.out.1.trans (h4.mono HBB.out.1.size)⟩
set_option maxRecDepth 100000 in
theorem of_9 {w : World} {B h A : Nat} {cv fv rv : Value} {d : AD} (hp : HpAt w B h A cv fv rv d) (x : Vt) (hx : x.1 = 9) (e : Nat) (hr : d.get x.2.1 = some (envB e)) : Calls Tryz.prog 18 #[.pointer (some ⟨h, 0, none⟩), valV x] w fun e w' => e = .returned (.pointer none) ∧ Below w.heap.size w w' := by
  have HI := Veil.mk (fun w => isobj_9 x hx w)
  have HR := Veil.mk (fun w => ref_9 x hx w)
  have HO : Veil (∀ W, Below w.heap.size w W → Calls Tryz.prog 9 #[.pointer (some ⟨h, 0, none⟩), .int .i64 x.2.1] W fun e9 w' => e9 = .returned (.pointer none) ∧ w' = W) := ⟨fun W hb => obj_env (hp.on hb) _ e hr⟩
  have b1 := Box.new w 43 #[.int .i64 x.1, .int .i64 x.2.1, .string x.2.2]
  have bb : Below w.heap.size w (w.alloc (.cells #[.int .i64 x.1, .int .i64 x.2.1, .string x.2.2] 43)) := (Below.refl _ _).alloc (Nat.le_refl _) _
  obtain ⟨kb, hkb⟩ : ∃ kb, w.heap.size = kb := ⟨_, rfl⟩
  obtain ⟨W0, hW0⟩ : ∃ W0, w.alloc (.cells #[.int .i64 x.1, .int .i64 x.2.1, .string x.2.2] 43) = W0 := ⟨_, rfl⟩
  rw [hW0] at b1 bb
  have HW0 := Veil.mk (And.intro hW0 hkb)
  rw [hkb] at b1
  have HBB := Veil.mk (And.intro bb b1)
  have x0 : W0.cell? ⟨kb, 0, none⟩ = some (.int .i64 x.1) := b1.at_ 0
  have x1 : W0.cell? ⟨kb, 1, none⟩ = some (.int .i64 x.2.1) := b1.at_ 1
  have x2 : W0.cell? ⟨kb, 2, none⟩ = some (.string x.2.2) := b1.at_ 2
  clear hW0 hkb b1 bb
  clear hx hp hr
  go_enter Tryz.func18, Tryz.ntmps18
  go_upto_region 1 with (fail)
  rw [HW0.out.1, HW0.out.2]
  go_upto_region 3 with (go_at_call 55; ((with_reducible refine (HI.out _).mono ?_); rintro e w4 ⟨rfl, h4⟩))
  have HB4 := Veil.mk (HBB.out.1.trans (h4.mono HBB.out.1.size))
  have b4 := HBB.out.2.below h4
  have y0 : w4.cell? ⟨kb, 0, none⟩ = some (.int .i64 x.1) := b4.at_ 0
  have y1 : w4.cell? ⟨kb, 1, none⟩ = some (.int .i64 x.2.1) := b4.at_ 1
  have y2 : w4.cell? ⟨kb, 2, none⟩ = some (.string x.2.2) := b4.at_ 2
  clear h4 b4 x0 x1 x2
  go_wp2_with (first | (go_at_call 56; ((with_reducible refine (HR.out _).mono ?_); rintro e w5 ⟨rfl, h5⟩; have HB5 := Veil.mk (HB4.out.trans (h5.mono HB4.out.size)); clear h5)) | (go_at_call 9; ((with_reducible refine (HO.out _ HB5.out).mono ?_); rintro e w6 ⟨rfl, h6⟩; subst w6)))
  go_ret
  exact ⟨rfl, HB5.out⟩
end Go.Proofs.YtbeapojjbgkalaaGreatDoor
