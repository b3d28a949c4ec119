/- Package show: printed, within; what is shown of a value in a machine. -/
import Derived.Test.YtgdkjkfbknbgkaaGreatDoorVe
import Derived.Test.YtgdkjkfbknbgkaaGreatDoorWe
namespace Go.Proofs.YtgdkjkfbknbgkaaGreatDoor
open Go Go.RowKit

set_option maxHeartbeats 1000000 in
set_option maxRecDepth 100000 in
theorem within_empty (W : World) (mv av : Value) (v : Vt) (hx : v.1 = 10) : Calls Tryz.prog 28 #[mv, valV v, av] W fun e w' => e = .returned (.string ⟨#[]⟩) ∧ Below W.heap.size W w' := by
  have b1 := Box.new W 30 #[.int .i64 v.1, .int .i64 v.2.1, .string v.2.2]
  have bb : Below W.heap.size W (W.alloc (.cells #[.int .i64 v.1, .int .i64 v.2.1, .string v.2.2] 30)) := (Below.refl _ _).alloc (Nat.le_refl _) _
  obtain ⟨kb, hkb⟩ : ∃ kb, W.heap.size = kb := ⟨_, rfl⟩
  obtain ⟨W0, hW0⟩ : ∃ W0, W.alloc (.cells #[.int .i64 v.1, .int .i64 v.2.1, .string v.2.2] 30) = W0 := ⟨_, rfl⟩
  rw [hW0] at b1 bb
  have HW0 := Veil.mk (And.intro hW0 hkb)
  rw [hkb] at b1
  have HBB := Veil.mk (And.intro bb b1)
  have x0 : W0.cell? ⟨kb, 0, none⟩ = some (.int .i64 v.1) := b1.at_ 0
  have x1 : W0.cell? ⟨kb, 1, none⟩ = some (.int .i64 v.2.1) := b1.at_ 1
  have x2 : W0.cell? ⟨kb, 2, none⟩ = some (.string v.2.2) := b1.at_ 2
  clear hW0 hkb b1 bb
  rw [hx] at x0
  clear hx
  go_enter Tryz.func28, Tryz.ntmps28
  go_upto_region 1 with (fail)
  rw [HW0.out.1, HW0.out.2]
  go_wp2
  go_ret
  exact ⟨rfl, HBB.out.1⟩
set_option maxHeartbeats 1000000 in
set_option maxRecDepth 100000 in
theorem within_str (W : World) (mv av : Value) (v : Vt) (hx : v.1 = 7) (r : ByteArray) (HG : Veil (∀ W, Calls Tryz.prog 16 #[.string v.2.2] W fun e w' => e = .returned (.string r) ∧ Below W.heap.size W w')) : Calls Tryz.prog 28 #[mv, valV v, av] W fun e w' => e = .returned (.string r) ∧ Below W.heap.size W w' := by
  have b1 := Box.new W 30 #[.int .i64 v.1, .int .i64 v.2.1, .string v.2.2]
  have bb : Below W.heap.size W (W.alloc (.cells #[.int .i64 v.1, .int .i64 v.2.1, .string v.2.2] 30)) := (Below.refl _ _).alloc (Nat.le_refl _) _
  obtain ⟨kb, hkb⟩ : ∃ kb, W.heap.size = kb := ⟨_, rfl⟩
  obtain ⟨W0, hW0⟩ : ∃ W0, W.alloc (.cells #[.int .i64 v.1, .int .i64 v.2.1, .string v.2.2] 30) = W0 := ⟨_, rfl⟩
  rw [hW0] at b1 bb
  have HW0 := Veil.mk (And.intro hW0 hkb)
  rw [hkb] at b1
  have HBB := Veil.mk (And.intro bb b1)
  have x0 : W0.cell? ⟨kb, 0, none⟩ = some (.int .i64 v.1) := b1.at_ 0
  have x1 : W0.cell? ⟨kb, 1, none⟩ = some (.int .i64 v.2.1) := b1.at_ 1
  have x2 : W0.cell? ⟨kb, 2, none⟩ = some (.string v.2.2) := b1.at_ 2
  clear hW0 hkb b1 bb
  rw [hx] at x0
  clear hx
  go_enter Tryz.func28, Tryz.ntmps28
  go_upto_region 1 with (fail)
  rw [HW0.out.1, HW0.out.2]
  go_wp2_with (go_at_call 16; ((with_reducible refine (HG.out _).mono ?_); rintro e w9 ⟨rfl, hb9⟩; have HB9 := Veil.mk hb9; clear hb9))
  go_ret
  exact ⟨rfl, HBB.out.1.trans (HB9.out.mono HBB.out.1.size)⟩
set_option maxHeartbeats 1000000 in
set_option maxRecDepth 100000 in
theorem within_obj (W : World) (mv av : Value) (v : Vt) (hx : v.1 = 9) (r : ByteArray) (HG : Veil (∀ W', Below W.heap.size W W' → Calls Tryz.prog 61 #[mv, valV v, av] W' fun e w' => e = .returned (.string r) ∧ Below W'.heap.size W' w')) : Calls Tryz.prog 28 #[mv, valV v, av] W fun e w' => e = .returned (.string r) ∧ Below W.heap.size W w' := by
  have b1 := Box.new W 30 #[.int .i64 v.1, .int .i64 v.2.1, .string v.2.2]
  have bb : Below W.heap.size W (W.alloc (.cells #[.int .i64 v.1, .int .i64 v.2.1, .string v.2.2] 30)) := (Below.refl _ _).alloc (Nat.le_refl _) _
  obtain ⟨kb, hkb⟩ : ∃ kb, W.heap.size = kb := ⟨_, rfl⟩
  obtain ⟨W0, hW0⟩ : ∃ W0, W.alloc (.cells #[.int .i64 v.1, .int .i64 v.2.1, .string v.2.2] 30) = W0 := ⟨_, rfl⟩
  rw [hW0] at b1 bb
  have HW0 := Veil.mk (And.intro hW0 hkb)
  rw [hkb] at b1
  have HBB := Veil.mk (And.intro bb b1)
  have x0 : W0.cell? ⟨kb, 0, none⟩ = some (.int .i64 v.1) := b1.at_ 0
  have x1 : W0.cell? ⟨kb, 1, none⟩ = some (.int .i64 v.2.1) := b1.at_ 1
  have x2 : W0.cell? ⟨kb, 2, none⟩ = some (.string v.2.2) := b1.at_ 2
  clear hW0 hkb b1 bb
  have HG := Veil.mk (HG.out W0 HBB.out.1)
  have e7 : (v.1 == 7) = false := by rw [hx]; rfl
  have e10 : (v.1 == 10) = false := by rw [hx]; rfl
  have e8 : (v.1 == 8) = false := by rw [hx]; rfl
  have e9 : (v.1 == 9) = true := by rw [hx]; rfl
  clear hx
  go_enter Tryz.func28, Tryz.ntmps28
  go_upto_region 1 with (fail)
  rw [HW0.out.1, HW0.out.2]
  go_wp2_with (go_at_call 61; ((with_reducible refine HG.out.mono ?_); rintro e w9 ⟨rfl, hb9⟩; have HB9 := Veil.mk hb9; clear hb9))
  go_ret
  exact ⟨rfl, HBB.out.1.trans (HB9.out.mono HBB.out.1.size)⟩
end Go.Proofs.YtgdkjkfbknbgkaaGreatDoor
namespace Go.Proofs.YtgdkjkfbknbgkaaGreatDoor.W
open Go.RowKit

theorem is_2 (w : World) : Calls Tryz.prog 94 #[V 3 2 e0] w fun e w' => e = .returned (.bool true) ∧ w.alloc (bxs 3 2 e0) = w' := by
  go_enter Tryz.func94, Tryz.ntmps94
  go_wp2
  go_ret
  exact ⟨rfl, rfl⟩
theorem fmt_2 (w : World) : Calls Tryz.prog 109 #[.int .i64 2, .int .i64 10] w fun e w' => e = .returned (.string ⟨#[50]⟩) ∧ w' = w := by
  have h := Tryz.strconv_FormatInt_10_small 2 (by omega) w
  have e : Lib.decDigits 2 = [50] := by rw [Lib.decDigits, dif_pos (by omega)]; rfl
  rw [e] at h
  exact h
theorem numText_2 (w : World) : Calls Tryz.prog 95 #[V 3 2 e0] w fun e w' => e = .returned (.string ⟨#[50]⟩) ∧ w.alloc (bxs 3 2 e0) = w' := by
  go_enter Tryz.func95, Tryz.ntmps95
  go_wp2_with (first | (go_at_call 109; ((with_reducible refine (fmt_2 _).mono ?_); rintro e w' ⟨rfl, rfl⟩)))
  go_ret
  exact ⟨rfl, rfl⟩
theorem text_2 (w : World) : Calls Tryz.prog 62 #[V 3 2 e0] w fun e w' => e = .returned (.tuple #[.string ⟨#[0, 50]⟩, .int .i64 0]) ∧ Below w.heap.size w w' := by
  have c1 : Hid (ofB ⟨#[50]⟩ = [0, 50]) := by show _ = _; decide +kernel
  go_enter Tryz.func62, Tryz.ntmps62
  go_wp2_with (first | (go_at_call 94; ((with_reducible refine (is_2 _).mono ?_); rintro e w' ⟨rfl, rfl⟩)) | (go_at_call 95; ((with_reducible refine (numText_2 _).mono ?_); rintro e w' ⟨rfl, rfl⟩)) | (go_at_call 20; ((with_reducible refine (of_const _ _ (by decide) c1 _).mono ?_); rintro e w1 ⟨rfl, hb1⟩)))
  go_ret2
  exact ⟨rfl, ((((Below.refl _ _).alloc (Nat.le_refl _) _).alloc (by simp) _).alloc (by simp; omega) _).trans (hb1.mono (by simp; omega))⟩
theorem is_5 (w : World) : Calls Tryz.prog 94 #[V 3 5 e0] w fun e w' => e = .returned (.bool true) ∧ w.alloc (bxs 3 5 e0) = w' := by
  go_enter Tryz.func94, Tryz.ntmps94
  go_wp2
  go_ret
  exact ⟨rfl, rfl⟩
theorem fmt_5 (w : World) : Calls Tryz.prog 109 #[.int .i64 5, .int .i64 10] w fun e w' => e = .returned (.string ⟨#[53]⟩) ∧ w' = w := by
  have h := Tryz.strconv_FormatInt_10_small 5 (by omega) w
  have e : Lib.decDigits 5 = [53] := by rw [Lib.decDigits, dif_pos (by omega)]; rfl
  rw [e] at h
  exact h
theorem numText_5 (w : World) : Calls Tryz.prog 95 #[V 3 5 e0] w fun e w' => e = .returned (.string ⟨#[53]⟩) ∧ w.alloc (bxs 3 5 e0) = w' := by
  go_enter Tryz.func95, Tryz.ntmps95
  go_wp2_with (first | (go_at_call 109; ((with_reducible refine (fmt_5 _).mono ?_); rintro e w' ⟨rfl, rfl⟩)))
  go_ret
  exact ⟨rfl, rfl⟩
theorem text_5 (w : World) : Calls Tryz.prog 62 #[V 3 5 e0] w fun e w' => e = .returned (.tuple #[.string ⟨#[0, 53]⟩, .int .i64 0]) ∧ Below w.heap.size w w' := by
  have c1 : Hid (ofB ⟨#[53]⟩ = [0, 53]) := by show _ = _; decide +kernel
  go_enter Tryz.func62, Tryz.ntmps62
  go_wp2_with (first | (go_at_call 94; ((with_reducible refine (is_5 _).mono ?_); rintro e w' ⟨rfl, rfl⟩)) | (go_at_call 95; ((with_reducible refine (numText_5 _).mono ?_); rintro e w' ⟨rfl, rfl⟩)) | (go_at_call 20; ((with_reducible refine (of_const _ _ (by decide) c1 _).mono ?_); rintro e w1 ⟨rfl, hb1⟩)))
  go_ret2
  exact ⟨rfl, ((((Below.refl _ _).alloc (Nat.le_refl _) _).alloc (by simp) _).alloc (by simp; omega) _).trans (hb1.mono (by simp; omega))⟩
theorem is_u (w : World) : Calls Tryz.prog 94 #[V 0 0 e0] w fun e w' => e = .returned (.bool false) ∧ w.alloc (bxs 0 0 e0) = w' := by
  go_enter Tryz.func94, Tryz.ntmps94
  go_wp2
  go_ret
  exact ⟨rfl, rfl⟩
theorem text_u (w : World) : Calls Tryz.prog 62 #[V 0 0 e0] w fun e w' => e = .returned (.tuple #[.string ⟨#[0, 117, 0, 110, 0, 100, 0, 101, 0, 102, 0, 105, 0, 110, 0, 101, 0, 100]⟩, .int .i64 0]) ∧ Below w.heap.size w w' := by
  have c1 : Hid (ofB ⟨#[117, 110, 100, 101, 102, 105, 110, 101, 100]⟩ = [0, 117, 0, 110, 0, 100, 0, 101, 0, 102, 0, 105, 0, 110, 0, 101, 0, 100]) := by show _ = _; decide +kernel
  go_enter Tryz.func62, Tryz.ntmps62
  go_wp2_with (first | (go_at_call 94; ((with_reducible refine (is_u _).mono ?_); rintro e w' ⟨rfl, rfl⟩)) | (go_at_call 20; ((with_reducible refine (of_const _ _ (by decide) c1 _).mono ?_); rintro e w' ⟨rfl, hb1⟩)))
  go_ret2
  exact ⟨rfl, (((Below.refl _ _).alloc (Nat.le_refl _) _).alloc (by simp) _).trans (hb1.mono (by simp; omega))⟩
end Go.Proofs.YtgdkjkfbknbgkaaGreatDoor.W
namespace Go.Proofs.YtgdkjkfbknbgkaaGreatDoor
open Go Go.RowKit

set_option maxHeartbeats 1000000 in
set_option maxRecDepth 100000 in
theorem within_text (W : World) (mv av : Value) (v : Vt) (e7 : (v.1 == 7) = false) (e10 : (v.1 == 10) = false) (e8 : (v.1 == 8) = false) (e9 : (v.1 == 9) = false) (t r : ByteArray) (st : Int) (HT : Veil (∀ W, Calls Tryz.prog 62 #[valV v] W fun e w' => e = .returned (.tuple #[.string t, .int .i64 st]) ∧ Below W.heap.size W w')) (HG : Veil (∀ W, Calls Tryz.prog 16 #[.string t] W fun e w' => e = .returned (.string r) ∧ Below W.heap.size W w')) : Calls Tryz.prog 28 #[mv, valV v, av] W fun e w' => e = .returned (.string r) ∧ Below W.heap.size W w' := by
  have b1 := Box.new W 30 #[.int .i64 v.1, .int .i64 v.2.1, .string v.2.2]
  have bb : Below W.heap.size W (W.alloc (.cells #[.int .i64 v.1, .int .i64 v.2.1, .string v.2.2] 30)) := (Below.refl _ _).alloc (Nat.le_refl _) _
  obtain ⟨kb, hkb⟩ : ∃ kb, W.heap.size = kb := ⟨_, rfl⟩
  obtain ⟨W0, hW0⟩ : ∃ W0, W.alloc (.cells #[.int .i64 v.1, .int .i64 v.2.1, .string v.2.2] 30) = W0 := ⟨_, rfl⟩
  rw [hW0] at b1 bb
  have HW0 := Veil.mk (And.intro hW0 hkb)
  rw [hkb] at b1
  have HBB := Veil.mk (And.intro bb b1)
  have x0 : W0.cell? ⟨kb, 0, none⟩ = some (.int .i64 v.1) := b1.at_ 0
  have x1 : W0.cell? ⟨kb, 1, none⟩ = some (.int .i64 v.2.1) := b1.at_ 1
  have x2 : W0.cell? ⟨kb, 2, none⟩ = some (.string v.2.2) := b1.at_ 2
  clear hW0 hkb b1 bb
  go_enter Tryz.func28, Tryz.ntmps28
  go_upto_region 1 with (fail)
  rw [HW0.out.1, HW0.out.2]
  go_wp2_with (first | (go_at_call 62; ((with_reducible refine (HT.out _).mono ?_); rintro e w8 ⟨rfl, hb8⟩; have HB8 := Veil.mk hb8; clear hb8)) | (go_at_call 16; ((with_reducible refine (HG.out _).mono ?_); rintro e w9 ⟨rfl, hb9⟩; have HB9 := Veil.mk hb9; clear hb9)))
  go_ret
  exact ⟨rfl, (HBB.out.1.trans (HB8.out.mono HBB.out.1.size)).trans (HB9.out.mono (Nat.le_trans HBB.out.1.size HB8.out.size))⟩
theorem leaf_1 (mv av : Value) (w : World) : Calls Tryz.prog 28 #[mv, valV (3, 1, ⟨#[]⟩), av] w fun e w' => e = .returned (.string ⟨#[49]⟩) ∧ Below w.heap.size w w' :=
  within_text w mv av (3, 1, ⟨#[]⟩) rfl rfl rfl rfl ⟨#[0, 49]⟩ ⟨#[49]⟩ 0 ⟨fun w => W.text_1 w⟩ ⟨fun w => W.go_at [49] ⟨#[0, 49]⟩ ⟨#[49]⟩ ⟨by decide +kernel⟩ (by decide) (by decide) ⟨by decide +kernel⟩ w⟩
theorem leaf_2 (mv av : Value) (w : World) : Calls Tryz.prog 28 #[mv, valV (3, 2, ⟨#[]⟩), av] w fun e w' => e = .returned (.string ⟨#[50]⟩) ∧ Below w.heap.size w w' :=
  within_text w mv av (3, 2, ⟨#[]⟩) rfl rfl rfl rfl ⟨#[0, 50]⟩ ⟨#[50]⟩ 0 ⟨fun w => W.text_2 w⟩ ⟨fun w => W.go_at [50] ⟨#[0, 50]⟩ ⟨#[50]⟩ ⟨by decide +kernel⟩ (by decide) (by decide) ⟨by decide +kernel⟩ w⟩
theorem leaf_5 (mv av : Value) (w : World) : Calls Tryz.prog 28 #[mv, valV (3, 5, ⟨#[]⟩), av] w fun e w' => e = .returned (.string ⟨#[53]⟩) ∧ Below w.heap.size w w' :=
  within_text w mv av (3, 5, ⟨#[]⟩) rfl rfl rfl rfl ⟨#[0, 53]⟩ ⟨#[53]⟩ 0 ⟨fun w => W.text_5 w⟩ ⟨fun w => W.go_at [53] ⟨#[0, 53]⟩ ⟨#[53]⟩ ⟨by decide +kernel⟩ (by decide) (by decide) ⟨by decide +kernel⟩ w⟩
theorem leaf_u (mv av : Value) (w : World) : Calls Tryz.prog 28 #[mv, valV (0, 0, ⟨#[]⟩), av] w fun e w' => e = .returned (.string ⟨#[117, 110, 100, 101, 102, 105, 110, 101, 100]⟩) ∧ Below w.heap.size w w' :=
  within_text w mv av (0, 0, ⟨#[]⟩) rfl rfl rfl rfl ⟨#[0, 117, 0, 110, 0, 100, 0, 101, 0, 102, 0, 105, 0, 110, 0, 101, 0, 100]⟩ ⟨#[117, 110, 100, 101, 102, 105, 110, 101, 100]⟩ 0 ⟨fun w => W.text_u w⟩ ⟨fun w => W.go_at [117, 110, 100, 101, 102, 105, 110, 101, 100] ⟨#[0, 117, 0, 110, 0, 100, 0, 101, 0, 102, 0, 105, 0, 110, 0, 101, 0, 100]⟩ ⟨#[117, 110, 100, 101, 102, 105, 110, 101, 100]⟩ ⟨by decide +kernel⟩ (by decide) (by decide) ⟨by decide +kernel⟩ w⟩
theorem leaf_a (mv av : Value) (w : World) : Calls Tryz.prog 28 #[mv, valV (7, 0, ⟨#[0, 97]⟩), av] w fun e w' => e = .returned (.string ⟨#[97]⟩) ∧ Below w.heap.size w w' :=
  within_str w mv av (7, 0, ⟨#[0, 97]⟩) rfl ⟨#[97]⟩ ⟨fun w => W.go_at [97] ⟨#[0, 97]⟩ ⟨#[97]⟩ ⟨by decide +kernel⟩ (by decide) (by decide) ⟨by decide +kernel⟩ w⟩
end Go.Proofs.YtgdkjkfbknbgkaaGreatDoor
