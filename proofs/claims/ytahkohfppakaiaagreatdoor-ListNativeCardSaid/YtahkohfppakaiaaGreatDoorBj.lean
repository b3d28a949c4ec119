/- Texts of the stage, joined: Ur. -/
import Derived.Test.YtahkohfppakaiaaGreatDoorBg
import Derived.Test.YtahkohfppakaiaaGreatDoorBh
set_option maxHeartbeats 40000000
set_option maxRecDepth 100000
namespace Go.Proofs.YtahkohfppakaiaaGreatDoor
open Go Go.RowKit
theorem len13 {α : Type} {us : List α} (h : us.length = 13) : ∃ a0 a1 a2 a3 a4 a5 a6 a7 a8 a9 a10 a11 a12, us = [a0, a1, a2, a3, a4, a5, a6, a7, a8, a9, a10, a11, a12] := by
 match us, h with
 | [a0, a1, a2, a3, a4, a5, a6, a7, a8, a9, a10, a11, a12], _ => exact ⟨a0, a1, a2, a3, a4, a5, a6, a7, a8, a9, a10, a11, a12, rfl⟩
theorem define_len {w : World} {o : Nat} {proto : Int} {ev : Value} (hbx : Box w o 63 (objC 1 proto false (.pointer none) ev)) (k v v0 : Vt) (res : Bool) (P : World -> World -> Prop) (hP : ∀ W w', Below w.heap.size w W -> P W w' -> P w w') (HOW : ∀ W, Below w.heap.size w W -> Calls Tryz.prog 71 #[.pointer (some ⟨o, 0, none⟩), valV k] W fun e w' => e = .returned (.tuple #[valV v0, .int .i64 1, .bool true]) /\ Below W.heap.size W w')
  (HIL : ∀ W, Below w.heap.size w W -> Calls Tryz.prog 107 #[.pointer (some ⟨o, 0, none⟩), valV k] W fun e w' => e = .returned (.bool true) /\ Below W.heap.size W w')
  (HST : ∀ W, Below w.heap.size w W -> Calls Tryz.prog 111 #[.pointer (some ⟨o, 0, none⟩), valV v, .int .i64 1] W fun e w' => e = .returned (.bool res) /\ P W w') :
  Calls Tryz.prog 72 #[.pointer (some ⟨o, 0, none⟩), valV k, valV v, .int .i64 1] w fun e w' => e = .returned (.bool res) /\ P w w' := by
 obtain ⟨kb, hkb⟩ : ∃ kb, w.heap.size = kb := ⟨_, rfl⟩
 obtain ⟨vb, hvb⟩ : ∃ vb, kb + 1 = vb := ⟨_, rfl⟩
 have b1 := (Box.new w 28 #[.int .i64 k.1, .int .i64 k.2.1, .string k.2.2]).more (.cells #[.int .i64 v.1, .int .i64 v.2.1, .string v.2.2] 28)
 have b2 := Box.new (w.alloc (.cells #[.int .i64 k.1, .int .i64 k.2.1, .string k.2.2] 28)) 28 #[.int .i64 v.1, .int .i64 v.2.1, .string v.2.2]
 have bb : Below w.heap.size w ((w.alloc (.cells #[.int .i64 k.1, .int .i64 k.2.1, .string k.2.2] 28)).alloc (.cells #[.int .i64 v.1, .int .i64 v.2.1, .string v.2.2] 28)) := ((Below.refl _ _).alloc (Nat.le_refl _) _).alloc (by simp) _
 rw [World.size_alloc] at b2
 obtain ⟨W0, hW0⟩ : ∃ W0, ((w.alloc (.cells #[.int .i64 k.1, .int .i64 k.2.1, .string k.2.2] 28)).alloc (.cells #[.int .i64 v.1, .int .i64 v.2.1, .string v.2.2] 28)) = W0 := ⟨_, rfl⟩
 rw [hW0] at b1 b2 bb
 have HW0 := Veil.mk (And.intro hW0 (And.intro hkb hvb))
 rw [hkb] at b1 b2
 rw [hvb] at b2
 have HB0 := Veil.mk (And.intro bb (And.intro b1 b2))
 have x0 : W0.cell? ⟨kb, 0, none⟩ = some (.int .i64 k.1) := b1.at_ 0
 have x1 : W0.cell? ⟨kb, 1, none⟩ = some (.int .i64 k.2.1) := b1.at_ 1
 have x2 : W0.cell? ⟨kb, 2, none⟩ = some (.string k.2.2) := b1.at_ 2
 have HOW := Veil.mk HOW
 have HIL := Veil.mk HIL
 skip
 have HST := Veil.mk HST
 have HP := Veil.mk hP
 have HBX := Veil.mk hbx
 clear hbx b1 b2 bb hW0 hkb hvb hP
 go_enter Tryz.func72, Tryz.ntmps72
 go_upto_region 1 with (fail)
 rw [HW0.out.1, HW0.out.2.1, HW0.out.2.2]
 go_upto_region 4 with (go_at_call 71; ((with_reducible refine (HOW.out _ HB0.out.1).mono ?_); rintro e w1 ⟨rfl, hb1⟩))
 have hal : Below w1.heap.size w1 (w1.alloc (.cells #[.int .i64 v0.1, .int .i64 v0.2.1, .string v0.2.2] 28)) := (Below.refl _ _).alloc (Nat.le_refl _) _
 obtain ⟨W2, hW2⟩ : ∃ W2, w1.alloc (.cells #[.int .i64 v0.1, .int .i64 v0.2.1, .string v0.2.2] 28) = W2 := ⟨_, rfl⟩
 rw [hW2] at hal ⊢
 have HB2 : Veil (Below w.heap.size w W2) := ⟨blw2 (blw2 HB0.out.1 hb1) hal⟩
 have HQ2 := Veil.mk (And.intro ((HB0.out.2.1.below hb1).below hal) ((HB0.out.2.2.below hb1).below hal))
 clear x0 x1 x2 hb1 hal hW2 HOW
 have x0 : W2.cell? ⟨kb, 0, none⟩ = some (.int .i64 k.1) := HQ2.out.1.at_ 0
 have x1 : W2.cell? ⟨kb, 1, none⟩ = some (.int .i64 k.2.1) := HQ2.out.1.at_ 1
 have x2 : W2.cell? ⟨kb, 2, none⟩ = some (.string k.2.2) := HQ2.out.1.at_ 2
 have y0 : W2.cell? ⟨vb, 0, none⟩ = some (.int .i64 v.1) := HQ2.out.2.at_ 0
 have y1 : W2.cell? ⟨vb, 1, none⟩ = some (.int .i64 v.2.1) := HQ2.out.2.at_ 1
 have y2 : W2.cell? ⟨vb, 2, none⟩ = some (.string v.2.2) := HQ2.out.2.at_ 2
 go_upto_region 9 with (go_at_call 107; ((with_reducible refine (HIL.out _ HB2.out).mono ?_); rintro e w3 ⟨rfl, hb3⟩))
 have HB3 : Veil (Below w.heap.size w w3) := ⟨blw2 HB2.out hb3⟩
 have q3 := And.intro (HQ2.out.1.below hb3) (HQ2.out.2.below hb3)
 clear x0 x1 x2 y0 y1 y2 hb3 HIL
 have x0 : w3.cell? ⟨kb, 0, none⟩ = some (.int .i64 k.1) := q3.1.at_ 0
 have x1 : w3.cell? ⟨kb, 1, none⟩ = some (.int .i64 k.2.1) := q3.1.at_ 1
 have x2 : w3.cell? ⟨kb, 2, none⟩ = some (.string k.2.2) := q3.1.at_ 2
 have y0 : w3.cell? ⟨vb, 0, none⟩ = some (.int .i64 v.1) := q3.2.at_ 0
 have y1 : w3.cell? ⟨vb, 1, none⟩ = some (.int .i64 v.2.1) := q3.2.at_ 1
 have y2 : w3.cell? ⟨vb, 2, none⟩ = some (.string v.2.2) := q3.2.at_ 2
 clear q3
 go_wp2_with (go_at_call 111; ((with_reducible refine (HST.out _ HB3.out).mono ?_); rintro e w4 ⟨rfl, hp4⟩))
 go_ret
 exact ⟨rfl, HP.out _ _ HB3.out hp4⟩
theorem define_el {w : World} {o : Nat} {proto : Int} {ev : Value} (hbx : Box w o 63 (objC 1 proto false (.pointer none) ev)) (k v v0 : Vt) (i : Nat) (res : Bool) (P : World -> World -> Prop) (hP : ∀ W w', Below w.heap.size w W -> P W w' -> P w w') (HOW : ∀ W, Below w.heap.size w W -> Calls Tryz.prog 71 #[.pointer (some ⟨o, 0, none⟩), valV k] W fun e w' => e = .returned (.tuple #[valV v0, .int .i64 7, .bool true]) /\ Below W.heap.size W w')
  (HIL : ∀ W, Below w.heap.size w W -> Calls Tryz.prog 107 #[.pointer (some ⟨o, 0, none⟩), valV k] W fun e w' => e = .returned (.bool false) /\ Below W.heap.size W w')
  (HEM : ∀ W, Below w.heap.size w W -> Calls Tryz.prog 109 #[.pointer (some ⟨o, 0, none⟩), valV k] W fun e w' => e = .returned (.int .i64 (i : Int)) /\ Below W.heap.size W w')
  (HST : ∀ W, Below w.heap.size w W -> Calls Tryz.prog 112 #[.pointer (some ⟨o, 0, none⟩), .int .i64 (i : Int), valV v, .int .i64 7] W fun e w' => e = .returned (.bool res) /\ P W w') :
  Calls Tryz.prog 72 #[.pointer (some ⟨o, 0, none⟩), valV k, valV v, .int .i64 7] w fun e w' => e = .returned (.bool res) /\ P w w' := by
 obtain ⟨kb, hkb⟩ : ∃ kb, w.heap.size = kb := ⟨_, rfl⟩
 obtain ⟨vb, hvb⟩ : ∃ vb, kb + 1 = vb := ⟨_, rfl⟩
 have b1 := (Box.new w 28 #[.int .i64 k.1, .int .i64 k.2.1, .string k.2.2]).more (.cells #[.int .i64 v.1, .int .i64 v.2.1, .string v.2.2] 28)
 have b2 := Box.new (w.alloc (.cells #[.int .i64 k.1, .int .i64 k.2.1, .string k.2.2] 28)) 28 #[.int .i64 v.1, .int .i64 v.2.1, .string v.2.2]
 have bb : Below w.heap.size w ((w.alloc (.cells #[.int .i64 k.1, .int .i64 k.2.1, .string k.2.2] 28)).alloc (.cells #[.int .i64 v.1, .int .i64 v.2.1, .string v.2.2] 28)) := ((Below.refl _ _).alloc (Nat.le_refl _) _).alloc (by simp) _
 rw [World.size_alloc] at b2
 obtain ⟨W0, hW0⟩ : ∃ W0, ((w.alloc (.cells #[.int .i64 k.1, .int .i64 k.2.1, .string k.2.2] 28)).alloc (.cells #[.int .i64 v.1, .int .i64 v.2.1, .string v.2.2] 28)) = W0 := ⟨_, rfl⟩
 rw [hW0] at b1 b2 bb
 have HW0 := Veil.mk (And.intro hW0 (And.intro hkb hvb))
 rw [hkb] at b1 b2
 rw [hvb] at b2
 have HB0 := Veil.mk (And.intro bb (And.intro b1 b2))
 have x0 : W0.cell? ⟨kb, 0, none⟩ = some (.int .i64 k.1) := b1.at_ 0
 have x1 : W0.cell? ⟨kb, 1, none⟩ = some (.int .i64 k.2.1) := b1.at_ 1
 have x2 : W0.cell? ⟨kb, 2, none⟩ = some (.string k.2.2) := b1.at_ 2
 have HOW := Veil.mk HOW
 have HIL := Veil.mk HIL
 have HEM := Veil.mk HEM
 have HST := Veil.mk HST
 have HP := Veil.mk hP
 have HBX := Veil.mk hbx
 clear hbx b1 b2 bb hW0 hkb hvb hP
 go_enter Tryz.func72, Tryz.ntmps72
 go_upto_region 1 with (fail)
 rw [HW0.out.1, HW0.out.2.1, HW0.out.2.2]
 go_upto_region 4 with (go_at_call 71; ((with_reducible refine (HOW.out _ HB0.out.1).mono ?_); rintro e w1 ⟨rfl, hb1⟩))
 have hal : Below w1.heap.size w1 (w1.alloc (.cells #[.int .i64 v0.1, .int .i64 v0.2.1, .string v0.2.2] 28)) := (Below.refl _ _).alloc (Nat.le_refl _) _
 obtain ⟨W2, hW2⟩ : ∃ W2, w1.alloc (.cells #[.int .i64 v0.1, .int .i64 v0.2.1, .string v0.2.2] 28) = W2 := ⟨_, rfl⟩
 rw [hW2] at hal ⊢
 have HB2 : Veil (Below w.heap.size w W2) := ⟨blw2 (blw2 HB0.out.1 hb1) hal⟩
 have HQ2 := Veil.mk (And.intro ((HB0.out.2.1.below hb1).below hal) ((HB0.out.2.2.below hb1).below hal))
 clear x0 x1 x2 hb1 hal hW2 HOW
 have x0 : W2.cell? ⟨kb, 0, none⟩ = some (.int .i64 k.1) := HQ2.out.1.at_ 0
 have x1 : W2.cell? ⟨kb, 1, none⟩ = some (.int .i64 k.2.1) := HQ2.out.1.at_ 1
 have x2 : W2.cell? ⟨kb, 2, none⟩ = some (.string k.2.2) := HQ2.out.1.at_ 2
 have y0 : W2.cell? ⟨vb, 0, none⟩ = some (.int .i64 v.1) := HQ2.out.2.at_ 0
 have y1 : W2.cell? ⟨vb, 1, none⟩ = some (.int .i64 v.2.1) := HQ2.out.2.at_ 1
 have y2 : W2.cell? ⟨vb, 2, none⟩ = some (.string v.2.2) := HQ2.out.2.at_ 2
 go_upto_region 10 with (go_at_call 107; ((with_reducible refine (HIL.out _ HB2.out).mono ?_); rintro e w3 ⟨rfl, hb3⟩))
 have HB3 : Veil (Below w.heap.size w w3) := ⟨blw2 HB2.out hb3⟩
 have HQ3 := Veil.mk (And.intro (HQ2.out.1.below hb3) (HQ2.out.2.below hb3))
 clear x0 x1 x2 y0 y1 y2 hb3 HIL
 have x0 : w3.cell? ⟨kb, 0, none⟩ = some (.int .i64 k.1) := HQ3.out.1.at_ 0
 have x1 : w3.cell? ⟨kb, 1, none⟩ = some (.int .i64 k.2.1) := HQ3.out.1.at_ 1
 have x2 : w3.cell? ⟨kb, 2, none⟩ = some (.string k.2.2) := HQ3.out.1.at_ 2
 have y0 : w3.cell? ⟨vb, 0, none⟩ = some (.int .i64 v.1) := HQ3.out.2.at_ 0
 have y1 : w3.cell? ⟨vb, 1, none⟩ = some (.int .i64 v.2.1) := HQ3.out.2.at_ 1
 have y2 : w3.cell? ⟨vb, 2, none⟩ = some (.string v.2.2) := HQ3.out.2.at_ 2
 have hi0 : (0 : Int) <= (i : Int) := by omega
 go_upto_region 12 with (go_at_call 109; ((with_reducible refine (HEM.out _ HB3.out).mono ?_); rintro e w5 ⟨rfl, hb5⟩))
 have HB5 : Veil (Below w.heap.size w w5) := ⟨blw2 HB3.out hb5⟩
 have q5 := And.intro (HQ3.out.1.below hb5) (HQ3.out.2.below hb5)
 clear x0 x1 x2 y0 y1 y2 hb5 HEM
 have x0 : w5.cell? ⟨kb, 0, none⟩ = some (.int .i64 k.1) := q5.1.at_ 0
 have x1 : w5.cell? ⟨kb, 1, none⟩ = some (.int .i64 k.2.1) := q5.1.at_ 1
 have x2 : w5.cell? ⟨kb, 2, none⟩ = some (.string k.2.2) := q5.1.at_ 2
 have y0 : w5.cell? ⟨vb, 0, none⟩ = some (.int .i64 v.1) := q5.2.at_ 0
 have y1 : w5.cell? ⟨vb, 1, none⟩ = some (.int .i64 v.2.1) := q5.2.at_ 1
 have y2 : w5.cell? ⟨vb, 2, none⟩ = some (.string v.2.2) := q5.2.at_ 2
 clear q5
 go_wp2_with (go_at_call 112; ((with_reducible refine (HST.out _ HB5.out).mono ?_); rintro e w4 ⟨rfl, hp4⟩))
 go_ret
 exact ⟨rfl, HP.out _ _ HB5.out hp4⟩
theorem define_eln {w : World} {o : Nat} {proto : Int} {ev : Value} (hbx : Box w o 63 (objC 1 proto false (.pointer none) ev)) (k v v0 : Vt) (i : Nat) (res : Bool) (P : World -> World -> Prop) (hP : ∀ W w', Below w.heap.size w W -> P W w' -> P w w') (HOW : ∀ W, Below w.heap.size w W -> Calls Tryz.prog 71 #[.pointer (some ⟨o, 0, none⟩), valV k] W fun e w' => e = .returned (.tuple #[valV v0, .int .i64 0, .bool false]) /\ Below W.heap.size W w')
  (HIL : ∀ W, Below w.heap.size w W -> Calls Tryz.prog 107 #[.pointer (some ⟨o, 0, none⟩), valV k] W fun e w' => e = .returned (.bool false) /\ Below W.heap.size W w')
  (HEM : ∀ W, Below w.heap.size w W -> Calls Tryz.prog 109 #[.pointer (some ⟨o, 0, none⟩), valV k] W fun e w' => e = .returned (.int .i64 (i : Int)) /\ Below W.heap.size W w')
  (HST : ∀ W, Below w.heap.size w W -> Calls Tryz.prog 112 #[.pointer (some ⟨o, 0, none⟩), .int .i64 (i : Int), valV v, .int .i64 7] W fun e w' => e = .returned (.bool res) /\ P W w') :
  Calls Tryz.prog 72 #[.pointer (some ⟨o, 0, none⟩), valV k, valV v, .int .i64 7] w fun e w' => e = .returned (.bool res) /\ P w w' := by
 obtain ⟨kb, hkb⟩ : ∃ kb, w.heap.size = kb := ⟨_, rfl⟩
 obtain ⟨vb, hvb⟩ : ∃ vb, kb + 1 = vb := ⟨_, rfl⟩
 have b1 := (Box.new w 28 #[.int .i64 k.1, .int .i64 k.2.1, .string k.2.2]).more (.cells #[.int .i64 v.1, .int .i64 v.2.1, .string v.2.2] 28)
 have b2 := Box.new (w.alloc (.cells #[.int .i64 k.1, .int .i64 k.2.1, .string k.2.2] 28)) 28 #[.int .i64 v.1, .int .i64 v.2.1, .string v.2.2]
 have bb : Below w.heap.size w ((w.alloc (.cells #[.int .i64 k.1, .int .i64 k.2.1, .string k.2.2] 28)).alloc (.cells #[.int .i64 v.1, .int .i64 v.2.1, .string v.2.2] 28)) := ((Below.refl _ _).alloc (Nat.le_refl _) _).alloc (by simp) _
 rw [World.size_alloc] at b2
 obtain ⟨W0, hW0⟩ : ∃ W0, ((w.alloc (.cells #[.int .i64 k.1, .int .i64 k.2.1, .string k.2.2] 28)).alloc (.cells #[.int .i64 v.1, .int .i64 v.2.1, .string v.2.2] 28)) = W0 := ⟨_, rfl⟩
 rw [hW0] at b1 b2 bb
 have HW0 := Veil.mk (And.intro hW0 (And.intro hkb hvb))
 rw [hkb] at b1 b2
 rw [hvb] at b2
 have HB0 := Veil.mk (And.intro bb (And.intro b1 b2))
 have x0 : W0.cell? ⟨kb, 0, none⟩ = some (.int .i64 k.1) := b1.at_ 0
 have x1 : W0.cell? ⟨kb, 1, none⟩ = some (.int .i64 k.2.1) := b1.at_ 1
 have x2 : W0.cell? ⟨kb, 2, none⟩ = some (.string k.2.2) := b1.at_ 2
 have HOW := Veil.mk HOW
 have HIL := Veil.mk HIL
 have HEM := Veil.mk HEM
 have HST := Veil.mk HST
 have HP := Veil.mk hP
 have HBX := Veil.mk hbx
 clear hbx b1 b2 bb hW0 hkb hvb hP
 go_enter Tryz.func72, Tryz.ntmps72
 go_upto_region 1 with (fail)
 rw [HW0.out.1, HW0.out.2.1, HW0.out.2.2]
 go_upto_region 4 with (go_at_call 71; ((with_reducible refine (HOW.out _ HB0.out.1).mono ?_); rintro e w1 ⟨rfl, hb1⟩))
 have hal : Below w1.heap.size w1 (w1.alloc (.cells #[.int .i64 v0.1, .int .i64 v0.2.1, .string v0.2.2] 28)) := (Below.refl _ _).alloc (Nat.le_refl _) _
 obtain ⟨W2, hW2⟩ : ∃ W2, w1.alloc (.cells #[.int .i64 v0.1, .int .i64 v0.2.1, .string v0.2.2] 28) = W2 := ⟨_, rfl⟩
 rw [hW2] at hal ⊢
 have HB2 : Veil (Below w.heap.size w W2) := ⟨blw2 (blw2 HB0.out.1 hb1) hal⟩
 have HQ2 := Veil.mk (And.intro ((HB0.out.2.1.below hb1).below hal) ((HB0.out.2.2.below hb1).below hal))
 clear x0 x1 x2 hb1 hal hW2 HOW
 have x0 : W2.cell? ⟨kb, 0, none⟩ = some (.int .i64 k.1) := HQ2.out.1.at_ 0
 have x1 : W2.cell? ⟨kb, 1, none⟩ = some (.int .i64 k.2.1) := HQ2.out.1.at_ 1
 have x2 : W2.cell? ⟨kb, 2, none⟩ = some (.string k.2.2) := HQ2.out.1.at_ 2
 have y0 : W2.cell? ⟨vb, 0, none⟩ = some (.int .i64 v.1) := HQ2.out.2.at_ 0
 have y1 : W2.cell? ⟨vb, 1, none⟩ = some (.int .i64 v.2.1) := HQ2.out.2.at_ 1
 have y2 : W2.cell? ⟨vb, 2, none⟩ = some (.string v.2.2) := HQ2.out.2.at_ 2
 have o2 : W2.cell? ⟨o, 2, none⟩ = some (.bool false) := (HBX.out.below HB2.out).at_ 2
 go_upto_region 10 with (go_at_call 107; ((with_reducible refine (HIL.out _ HB2.out).mono ?_); rintro e w3 ⟨rfl, hb3⟩))
 have HB3 : Veil (Below w.heap.size w w3) := ⟨blw2 HB2.out hb3⟩
 have HQ3 := Veil.mk (And.intro (HQ2.out.1.below hb3) (HQ2.out.2.below hb3))
 clear x0 x1 x2 y0 y1 y2 hb3 HIL o2
 have x0 : w3.cell? ⟨kb, 0, none⟩ = some (.int .i64 k.1) := HQ3.out.1.at_ 0
 have x1 : w3.cell? ⟨kb, 1, none⟩ = some (.int .i64 k.2.1) := HQ3.out.1.at_ 1
 have x2 : w3.cell? ⟨kb, 2, none⟩ = some (.string k.2.2) := HQ3.out.1.at_ 2
 have y0 : w3.cell? ⟨vb, 0, none⟩ = some (.int .i64 v.1) := HQ3.out.2.at_ 0
 have y1 : w3.cell? ⟨vb, 1, none⟩ = some (.int .i64 v.2.1) := HQ3.out.2.at_ 1
 have y2 : w3.cell? ⟨vb, 2, none⟩ = some (.string v.2.2) := HQ3.out.2.at_ 2
 have hi0 : (0 : Int) <= (i : Int) := by omega
 go_upto_region 12 with (go_at_call 109; ((with_reducible refine (HEM.out _ HB3.out).mono ?_); rintro e w5 ⟨rfl, hb5⟩))
 have HB5 : Veil (Below w.heap.size w w5) := ⟨blw2 HB3.out hb5⟩
 have q5 := And.intro (HQ3.out.1.below hb5) (HQ3.out.2.below hb5)
 clear x0 x1 x2 y0 y1 y2 hb5 HEM
 have x0 : w5.cell? ⟨kb, 0, none⟩ = some (.int .i64 k.1) := q5.1.at_ 0
 have x1 : w5.cell? ⟨kb, 1, none⟩ = some (.int .i64 k.2.1) := q5.1.at_ 1
 have x2 : w5.cell? ⟨kb, 2, none⟩ = some (.string k.2.2) := q5.1.at_ 2
 have y0 : w5.cell? ⟨vb, 0, none⟩ = some (.int .i64 v.1) := q5.2.at_ 0
 have y1 : w5.cell? ⟨vb, 1, none⟩ = some (.int .i64 v.2.1) := q5.2.at_ 1
 have y2 : w5.cell? ⟨vb, 2, none⟩ = some (.string v.2.2) := q5.2.at_ 2
 clear q5
 go_wp2_with (go_at_call 112; ((with_reducible refine (HST.out _ HB5.out).mono ?_); rintro e w4 ⟨rfl, hp4⟩))
 go_ret
 exact ⟨rfl, HP.out _ _ HB5.out hp4⟩
theorem put_ok {w : World} {h o : Nat} (r : Int) (HOBJ : Veil (∀ W, Below w.heap.size w W -> Calls Tryz.prog 32 #[.pointer (some ⟨h, 0, none⟩), .int .i64 r] W fun e w' => e = .returned (.pointer (some ⟨o, 0, none⟩)) /\ w' = W)) (k v v0 : Vt) (fl : Int) (hpl : ∀ w, Calls Tryz.prog 120 #[.int .i64 fl] w fun e w' => e = .returned (.bool true) /\ w' = w) (res : Bool) (P : World -> World -> Prop) (hP : ∀ W w', Below w.heap.size w W -> P W w' -> P w w') (HOW : ∀ W, Below w.heap.size w W -> Calls Tryz.prog 71 #[.pointer (some ⟨o, 0, none⟩), valV k] W fun e w' => e = .returned (.tuple #[valV v0, .int .i64 fl, .bool true]) /\ Below W.heap.size W w')
  (HDF : ∀ W, Below w.heap.size w W -> Calls Tryz.prog 72 #[.pointer (some ⟨o, 0, none⟩), valV k, valV v, .int .i64 fl] W fun e w' => e = .returned (.bool res) /\ P W w') :
  Calls Tryz.prog 87 #[.pointer (some ⟨h, 0, none⟩), .int .i64 r, valV k, valV v] w fun e w' => e = .returned (.bool res) /\ P w w' := by
 obtain ⟨kb, hkb⟩ : ∃ kb, w.heap.size = kb := ⟨_, rfl⟩
 obtain ⟨vb, hvb⟩ : ∃ vb, kb + 1 = vb := ⟨_, rfl⟩
 have b1 := (Box.new w 28 #[.int .i64 k.1, .int .i64 k.2.1, .string k.2.2]).more (.cells #[.int .i64 v.1, .int .i64 v.2.1, .string v.2.2] 28)
 have b2 := Box.new (w.alloc (.cells #[.int .i64 k.1, .int .i64 k.2.1, .string k.2.2] 28)) 28 #[.int .i64 v.1, .int .i64 v.2.1, .string v.2.2]
 have bb : Below w.heap.size w ((w.alloc (.cells #[.int .i64 k.1, .int .i64 k.2.1, .string k.2.2] 28)).alloc (.cells #[.int .i64 v.1, .int .i64 v.2.1, .string v.2.2] 28)) := ((Below.refl _ _).alloc (Nat.le_refl _) _).alloc (by simp) _
 rw [World.size_alloc] at b2
 obtain ⟨W0, hW0⟩ : ∃ W0, ((w.alloc (.cells #[.int .i64 k.1, .int .i64 k.2.1, .string k.2.2] 28)).alloc (.cells #[.int .i64 v.1, .int .i64 v.2.1, .string v.2.2] 28)) = W0 := ⟨_, rfl⟩
 rw [hW0] at b1 b2 bb
 have HW0 := Veil.mk (And.intro hW0 (And.intro hkb hvb))
 rw [hkb] at b1 b2
 rw [hvb] at b2
 have HB0 := Veil.mk (And.intro bb (And.intro b1 b2))
 have x0 : W0.cell? ⟨kb, 0, none⟩ = some (.int .i64 k.1) := b1.at_ 0
 have x1 : W0.cell? ⟨kb, 1, none⟩ = some (.int .i64 k.2.1) := b1.at_ 1
 have x2 : W0.cell? ⟨kb, 2, none⟩ = some (.string k.2.2) := b1.at_ 2
 have HOW := Veil.mk HOW
 have HDF := Veil.mk HDF
 have HP := Veil.mk hP
 have HPL := Veil.mk hpl
 clear b1 b2 bb hW0 hkb hvb hP hpl
 go_enter Tryz.func87, Tryz.ntmps87
 go_upto_region 1 with (fail)
 rw [HW0.out.1, HW0.out.2.1, HW0.out.2.2]
 go_upto_region 5 with (first | (go_at_call 32; ((with_reducible refine (HOBJ.out _ HB0.out.1).mono ?_); rintro e w9 ⟨rfl, h9⟩; subst w9)) | (go_at_call 71; ((with_reducible refine (HOW.out _ HB0.out.1).mono ?_); rintro e w1 ⟨rfl, hb1⟩)))
 have hal : Below w1.heap.size w1 (w1.alloc (.cells #[.int .i64 v0.1, .int .i64 v0.2.1, .string v0.2.2] 28)) := (Below.refl _ _).alloc (Nat.le_refl _) _
 obtain ⟨W2, hW2⟩ : ∃ W2, w1.alloc (.cells #[.int .i64 v0.1, .int .i64 v0.2.1, .string v0.2.2] 28) = W2 := ⟨_, rfl⟩
 rw [hW2] at hal ⊢
 have HB2 : Veil (Below w.heap.size w W2) := ⟨blw2 (blw2 HB0.out.1 hb1) hal⟩
 have HQ2 := Veil.mk (And.intro ((HB0.out.2.1.below hb1).below hal) ((HB0.out.2.2.below hb1).below hal))
 clear x0 x1 x2 hb1 hal hW2 HOW
 have x0 : W2.cell? ⟨kb, 0, none⟩ = some (.int .i64 k.1) := HQ2.out.1.at_ 0
 have x1 : W2.cell? ⟨kb, 1, none⟩ = some (.int .i64 k.2.1) := HQ2.out.1.at_ 1
 have x2 : W2.cell? ⟨kb, 2, none⟩ = some (.string k.2.2) := HQ2.out.1.at_ 2
 have y0 : W2.cell? ⟨vb, 0, none⟩ = some (.int .i64 v.1) := HQ2.out.2.at_ 0
 have y1 : W2.cell? ⟨vb, 1, none⟩ = some (.int .i64 v.2.1) := HQ2.out.2.at_ 1
 have y2 : W2.cell? ⟨vb, 2, none⟩ = some (.string v.2.2) := HQ2.out.2.at_ 2
 go_wp2_with (first | (go_at_call 120; ((with_reducible refine (HPL.out _).mono ?_); rintro e w9 ⟨rfl, h9⟩; subst w9)) | (go_at_call 72; ((with_reducible refine (HDF.out _ HB2.out).mono ?_); rintro e w4 ⟨rfl, hp4⟩)))
 go_ret
 exact ⟨rfl, HP.out _ _ HB2.out hp4⟩
theorem put_new {w : World} {h o : Nat} {pr : Int} {cs : Bool} {pv ev fn : Value} {kd : KD} (hbx : Box w o 63 (objF 1 pr cs pv ev fn kd)) (r : Int) (HOBJ : Veil (∀ W, Below w.heap.size w W -> Calls Tryz.prog 32 #[.pointer (some ⟨h, 0, none⟩), .int .i64 r] W fun e w' => e = .returned (.pointer (some ⟨o, 0, none⟩)) /\ w' = W)) (k v v0 : Vt) (HFDW : Veil (∀ W, Below w.heap.size w W -> Calls Tryz.prog 94 #[.pointer (some ⟨h, 0, none⟩), .int .i64 pr, valV k] W fun e w' => e = .returned (.tuple #[valV (0, 0, ⟨#[]⟩), .int .i64 0, .bool false]) /\ Below W.heap.size W w')) (res : Bool) (P : World -> World -> Prop) (hP : ∀ W w', Below w.heap.size w W -> P W w' -> P w w') (HOW : ∀ W, Below w.heap.size w W -> Calls Tryz.prog 71 #[.pointer (some ⟨o, 0, none⟩), valV k] W fun e w' => e = .returned (.tuple #[valV v0, .int .i64 0, .bool false]) /\ Below W.heap.size W w')
  (HDF : ∀ W, Below w.heap.size w W -> Calls Tryz.prog 72 #[.pointer (some ⟨o, 0, none⟩), valV k, valV v, .int .i64 7] W fun e w' => e = .returned (.bool res) /\ P W w') :
  Calls Tryz.prog 87 #[.pointer (some ⟨h, 0, none⟩), .int .i64 r, valV k, valV v] w fun e w' => e = .returned (.bool res) /\ P w w' := by
 obtain ⟨kb, hkb⟩ : ∃ kb, w.heap.size = kb := ⟨_, rfl⟩
 obtain ⟨vb, hvb⟩ : ∃ vb, kb + 1 = vb := ⟨_, rfl⟩
 have b1 := (Box.new w 28 #[.int .i64 k.1, .int .i64 k.2.1, .string k.2.2]).more (.cells #[.int .i64 v.1, .int .i64 v.2.1, .string v.2.2] 28)
 have b2 := Box.new (w.alloc (.cells #[.int .i64 k.1, .int .i64 k.2.1, .string k.2.2] 28)) 28 #[.int .i64 v.1, .int .i64 v.2.1, .string v.2.2]
 have bb : Below w.heap.size w ((w.alloc (.cells #[.int .i64 k.1, .int .i64 k.2.1, .string k.2.2] 28)).alloc (.cells #[.int .i64 v.1, .int .i64 v.2.1, .string v.2.2] 28)) := ((Below.refl _ _).alloc (Nat.le_refl _) _).alloc (by simp) _
 rw [World.size_alloc] at b2
 obtain ⟨W0, hW0⟩ : ∃ W0, ((w.alloc (.cells #[.int .i64 k.1, .int .i64 k.2.1, .string k.2.2] 28)).alloc (.cells #[.int .i64 v.1, .int .i64 v.2.1, .string v.2.2] 28)) = W0 := ⟨_, rfl⟩
 rw [hW0] at b1 b2 bb
 have HW0 := Veil.mk (And.intro hW0 (And.intro hkb hvb))
 rw [hkb] at b1 b2
 rw [hvb] at b2
 have HB0 := Veil.mk (And.intro bb (And.intro b1 b2))
 have x0 : W0.cell? ⟨kb, 0, none⟩ = some (.int .i64 k.1) := b1.at_ 0
 have x1 : W0.cell? ⟨kb, 1, none⟩ = some (.int .i64 k.2.1) := b1.at_ 1
 have x2 : W0.cell? ⟨kb, 2, none⟩ = some (.string k.2.2) := b1.at_ 2
 have HOW := Veil.mk HOW
 have HDF := Veil.mk HDF
 have HP := Veil.mk hP
 have HBX := Veil.mk hbx
 skip
 clear hbx b1 b2 bb hW0 hkb hvb hP
 go_enter Tryz.func87, Tryz.ntmps87
 go_upto_region 1 with (fail)
 rw [HW0.out.1, HW0.out.2.1, HW0.out.2.2]
 go_upto_region 5 with (first | (go_at_call 32; ((with_reducible refine (HOBJ.out _ HB0.out.1).mono ?_); rintro e w9 ⟨rfl, h9⟩; subst w9)) | (go_at_call 71; ((with_reducible refine (HOW.out _ HB0.out.1).mono ?_); rintro e w1 ⟨rfl, hb1⟩)))
 have hal : Below w1.heap.size w1 (w1.alloc (.cells #[.int .i64 v0.1, .int .i64 v0.2.1, .string v0.2.2] 28)) := (Below.refl _ _).alloc (Nat.le_refl _) _
 obtain ⟨W2, hW2⟩ : ∃ W2, w1.alloc (.cells #[.int .i64 v0.1, .int .i64 v0.2.1, .string v0.2.2] 28) = W2 := ⟨_, rfl⟩
 rw [hW2] at hal ⊢
 have HB2 : Veil (Below w.heap.size w W2) := ⟨blw2 (blw2 HB0.out.1 hb1) hal⟩
 have HQ2 := Veil.mk (And.intro ((HB0.out.2.1.below hb1).below hal) ((HB0.out.2.2.below hb1).below hal))
 clear x0 x1 x2 hb1 hal hW2 HOW
 have x0 : W2.cell? ⟨kb, 0, none⟩ = some (.int .i64 k.1) := HQ2.out.1.at_ 0
 have x1 : W2.cell? ⟨kb, 1, none⟩ = some (.int .i64 k.2.1) := HQ2.out.1.at_ 1
 have x2 : W2.cell? ⟨kb, 2, none⟩ = some (.string k.2.2) := HQ2.out.1.at_ 2
 have y0 : W2.cell? ⟨vb, 0, none⟩ = some (.int .i64 v.1) := HQ2.out.2.at_ 0
 have y1 : W2.cell? ⟨vb, 1, none⟩ = some (.int .i64 v.2.1) := HQ2.out.2.at_ 1
 have y2 : W2.cell? ⟨vb, 2, none⟩ = some (.string v.2.2) := HQ2.out.2.at_ 2
 go_upto_region 7 with (fail)
 clear x0 x1 x2 y0 y1 y2
 obtain ⟨WD, hWD⟩ : ∃ WD, W2.drew = WD := ⟨_, rfl⟩
 have HBD : Veil (Below w.heap.size w WD) := ⟨by rw [<- hWD]; exact HB2.out.drew⟩
 have HOB : Veil (Box WD o 63 (objF 1 pr cs pv ev fn kd)) := ⟨HBX.out.below HBD.out⟩
 have HKB : Veil (Box WD kb 28 #[.int .i64 k.1, .int .i64 k.2.1, .string k.2.2]) := ⟨by rw [<- hWD]; exact HQ2.out.1.drew⟩
 have HVB : Veil (Box WD vb 28 #[.int .i64 v.1, .int .i64 v.2.1, .string v.2.2]) := ⟨by rw [<- hWD]; exact HQ2.out.2.drew⟩
 have HFD := Veil.mk (HFDW.out WD HBD.out)
 have HWD := Veil.mk hWD
 clear hWD HQ2 HB2
 refine wp_region_chain [qp h 0, qp o 0, qp o 0, qp o 1, qi pr, qv k, qq (.tuple #[zeroV, .int .i64 0, .bool false]), qq (.tuple #[zeroV, .int .i64 0, .bool false]), qq zeroV, qi 0, qq (.bool false), qi 0, qq (.bool false)] (LPh [6] (OwSt WD 0 zV)) [some 36, some 37, some 38, some 39, some 40, some 41, some 42, some 35, some 43, some 44, some 45, some 11, some 12] (curV' _ [some 36, some 37, some 38, some 39, some 40, some 41, some 42, some 35, some 43, some 44, some 45, some 11, some 12]) (by kernel_rfl) rfl rfl (puts_cur _ _) (LPh.start (show W2.drew = WD from HWD.out)) ?_ (by kernel_rfl) ?_
 ·refine SY (fun _ S => ?_) ?_
  ·obtain ⟨⟩ := n13 S.hu
   rw [pin S.ha]
   go_simp
   exact S.kL 0
  refine SY (fun _ S => ?_) ?_
  ·obtain ⟨⟩ := n13 S.hu
   rw [pin S.ha]
   go_simp
   exact S.kL 1
  refine SY (fun _ S => ?_) ?_
  ·obtain ⟨⟩ := n13 S.hu
   obtain rfl := S.q 1
   rw [pin S.ha]
   go_simp
   exact S.kL 2
  refine SY (fun _ S => ?_) ?_
  ·obtain ⟨⟩ := n13 S.hu
   obtain rfl := S.q 2
   rw [pin S.ha]
   go_simp
   exact S.kL 3
  refine SY (fun w' S => ?_) ?_
  ·obtain ⟨⟩ := n13 S.hu
   obtain rfl := S.q 3
   have h6 := S.hI.before 6 4 rfl (by kernel_rfl) S.h0
   have hst := S.hI.ph.at_ 0 6 rfl h6 (.inl rfl)
   clear h6
   have c0 : w'.cell? ⟨o, 1, none⟩ = some (.int .i64 pr) := by rw [show w' = WD from hst]; exact HOB.out.at_ 1
   rw [pin S.ha]
   go_simp
   exact S.kL 4
  refine SY (fun w' S => ?_) ?_
  ·obtain ⟨⟩ := n13 S.hu
   have h6 := S.hI.before 6 5 rfl (by kernel_rfl) S.h0
   have hst := S.hI.ph.at_ 0 6 rfl h6 (.inl rfl)
   clear h6
   have HKW : Box w' kb 28 #[.int .i64 k.1, .int .i64 k.2.1, .string k.2.2] := by rw [show w' = WD from hst]; exact HKB.out
   have c0 : w'.cell? ⟨kb, 0, none⟩ = some (.int .i64 k.1) := HKW.at_ 0
   have c1 : w'.cell? ⟨kb, 1, none⟩ = some (.int .i64 k.2.1) := HKW.at_ 1
   have c2 : w'.cell? ⟨kb, 2, none⟩ = some (.string k.2.2) := HKW.at_ 2
   clear HKW
   rw [pin S.ha]
   go_simp
   exact S.kL 5
  refine SY (fun w' S => ?_) ?_
  ·obtain ⟨⟩ := n13 S.hu
   obtain rfl := S.q 0
   obtain rfl := S.q 4
   obtain rfl := S.q 5
   have hst := S.hI.ph.at_ 0 6 rfl S.h0 (.inl rfl)
   have HST := Veil.mk (show w' = WD from hst)
   have HF2 := HFD.out
   rw [<- show w' = WD from hst] at HF2
   have HF3 := Veil.mk HF2
   clear HF2
   rw [pin S.ha]
   go_simp
   go_at_call 94
   refine HF3.out.mono ?_
   rintro e9 w9 ⟨rfl, hb9⟩
   go_simp
   exact S.kS 6 (.tuple #[zeroV, .int .i64 0, .bool false]) (S.hI.ph.next 0 6 _ rfl S.h0 (.inl rfl) (by decide) (by rw [<- HST.out]; exact hb9))
  refine SY (fun _ S => ?_) ?_
  ·obtain ⟨⟩ := n13 S.hu
   obtain rfl := S.q 6
   rw [pin S.ha]
   go_simp
   exact S.kL 7
  refine SY (fun _ S => ?_) ?_
  ·obtain ⟨⟩ := n13 S.hu
   obtain rfl := S.q 7
   rw [pin S.ha]
   go_simp
   exact S.kL 8
  refine SY (fun _ S => ?_) ?_
  ·obtain ⟨⟩ := n13 S.hu
   obtain rfl := S.q 7
   rw [pin S.ha]
   go_simp
   exact S.kL 9
  refine SY (fun _ S => ?_) ?_
  ·obtain ⟨⟩ := n13 S.hu
   obtain rfl := S.q 7
   rw [pin S.ha]
   go_simp
   exact S.kL 10
  refine SY (fun _ S => ?_) ?_
  ·obtain ⟨⟩ := n13 S.hu
   obtain rfl := S.q 9
   rw [pin S.ha]
   go_simp
   exact S.kL 11
  refine SY (fun _ S => ?_) ?_
  ·obtain ⟨⟩ := n13 S.hu
   obtain rfl := S.q 10
   rw [pin S.ha]
   go_simp
   exact S.kL 12
  exact Steps.nil
 ·intro us w9 hus dd hD2 hJ
  obtain ⟨_, _, _, _, _, _, _, _, _, _, _, p11, p12⟩ := n13 hus
  have q1 := hJ.ph.all (fun c hc => hD2 c (by
   have : c = 6 := by simpa using hc
   show c < 13
   omega))
  replace q1 : Below WD.heap.size WD w9 := q1
  have e11 : p11 = .int .i64 0 := hJ.val 11 _ rfl (hD2 11 (by show 11 < 13; decide))
  have e12 : p12 = .bool false := hJ.val 12 _ rfl (hD2 12 (by show 12 < 13; decide))
  subst e11 e12
  have HB9 : Veil (Below w.heap.size w w9) := ⟨HBD.out.trans (q1.mono HBD.out.size)⟩
  have q9 := And.intro (HKB.out.below q1) (HVB.out.below q1)
  clear hJ hD2 q1
  have x0 : w9.cell? ⟨kb, 0, none⟩ = some (.int .i64 k.1) := q9.1.at_ 0
  have x1 : w9.cell? ⟨kb, 1, none⟩ = some (.int .i64 k.2.1) := q9.1.at_ 1
  have x2 : w9.cell? ⟨kb, 2, none⟩ = some (.string k.2.2) := q9.1.at_ 2
  have y0 : w9.cell? ⟨vb, 0, none⟩ = some (.int .i64 v.1) := q9.2.at_ 0
  have y1 : w9.cell? ⟨vb, 1, none⟩ = some (.int .i64 v.2.1) := q9.2.at_ 1
  have y2 : w9.cell? ⟨vb, 2, none⟩ = some (.string v.2.2) := q9.2.at_ 2
  clear q9
  simp only [puts, setAll, List.set_cons_zero, List.set_cons_succ, List.setIfInBounds_toArray]
  go_wp2_with (go_at_call 72; ((with_reducible refine (HDF.out _ HB9.out).mono ?_); rintro e w4 ⟨rfl, hp4⟩))
  go_ret
  exact ⟨rfl, HP.out _ _ HB9.out hp4⟩
end Go.Proofs.YtahkohfppakaiaaGreatDoor
