/- Texts of the stage, joined: Us. -/
import Derived.Test.YtahkohfppakaiaaGreatDoorBj
import Derived.Test.YtahkohfppakaiaaGreatDoorBg
import Derived.Test.YtahkohfppakaiaaGreatDoorBc
set_option maxHeartbeats 40000000
set_option maxRecDepth 100000
namespace Go.Proofs.YtahkohfppakaiaaGreatDoor
open Go Go.RowKit
attribute [local go_sem] Oper.semAt_some
def dgs (n : Nat) : List UInt8 := if n < 10 then [UInt8.ofNat (48 + n)] else if n < 100 then [UInt8.ofNat (48 + n / 10), UInt8.ofNat (48 + n % 10)] else [UInt8.ofNat (48 + n / 100), UInt8.ofNat (48 + n / 10 % 10), UInt8.ofNat (48 + n % 10)]
def kI (n : Nat) : ByteArray := ⟨(W.ofB ⟨(dgs n).toArray⟩).toArray⟩
theorem kI_all (n : Nat) (hn : n < 512) : W.idxU (W.unitsS (kI n)) = (n : Int) /\ (kI n).size <= 16 /\ ((kI n).toList == [0, 108, 0, 101, 0, 110, 0, 103, 0, 116, 0, 104]) = false := by
 have key : ∀ k : Fin 512, W.idxU (W.unitsS (kI k.1)) = (k.1 : Int) /\ (kI k.1).size <= 16 /\ ((kI k.1).toList == [0, 108, 0, 101, 0, 110, 0, 103, 0, 116, 0, 104]) = false := by decide +kernel
 exact key ⟨n, hn⟩
theorem dec_small (n : Nat) (hn : n < 100) : Lib.decDigits n = dgs n := by
 unfold dgs
 by_cases h : n < 10
 ·rw [if_pos h, Lib.decDigits, dif_pos h]
 ·rw [if_neg h, if_pos hn, Lib.decDigits, dif_neg h, Lib.decDigits, dif_pos (by omega)]
  rfl
theorem is_int (n : Nat) (hn : n < 512) (w : World) : Calls Tryz.prog 137 #[valV (3, (n : Int), ⟨#[]⟩)] w fun e w' => e = .returned (.bool true) /\ Below w.heap.size w w' := by
 have hb9 : ((n : Int) <= 9007199254740991) := by omega
 have hb8 : (-9007199254740991 <= (n : Int)) := by omega
 go_enter Tryz.func137, Tryz.ntmps137
 go_wp2
 go_ret
 exact ⟨rfl, (Below.refl _ _).alloc (Nat.le_refl _) _⟩
theorem numText_int (n : Nat) (w : World) (HF : Veil (∀ w', Below w.heap.size w w' -> Calls Tryz.prog 154 #[.int .i64 (n : Int), .int .i64 10] w' fun e w9 => e = .returned (.string ⟨(dgs n).toArray⟩) /\ Below w'.heap.size w' w9)) : Calls Tryz.prog 138 #[valV (3, (n : Int), ⟨#[]⟩)] w fun e w' => e = .returned (.string ⟨(dgs n).toArray⟩) /\ Below w.heap.size w w' := by
 have bb : Below w.heap.size w (w.alloc (.cells #[.int .i64 3, .int .i64 (n : Int), .string ⟨#[]⟩] 28)) := (Below.refl _ _).alloc (Nat.le_refl _) _
 have HF0 := Veil.mk (HF.out _ bb)
 have HB := Veil.mk bb
 clear bb HF
 go_enter Tryz.func138, Tryz.ntmps138
 go_wp2_with (go_at_call 154; ((with_reducible refine HF0.out.mono ?_); rintro e w' ⟨rfl, hb⟩))
 go_ret
 exact ⟨rfl, blw2 HB.out hb⟩
theorem text_int (n : Nat) (hn : n < 512) (w : World) (HF : Veil (∀ w', Below w.heap.size w w' -> Calls Tryz.prog 154 #[.int .i64 (n : Int), .int .i64 10] w' fun e w9 => e = .returned (.string ⟨(dgs n).toArray⟩) /\ Below w'.heap.size w' w9)) : Calls Tryz.prog 117 #[valV (3, (n : Int), ⟨#[]⟩)] w fun e w' => e = .returned (.tuple #[.string (kI n), .int .i64 0]) /\ Below w.heap.size w w' := by
 have bb : Below w.heap.size w (w.alloc (.cells #[.int .i64 3, .int .i64 (n : Int), .string ⟨#[]⟩] 28)) := (Below.refl _ _).alloc (Nat.le_refl _) _
 obtain ⟨W0, hW0⟩ : ∃ W0, w.alloc (.cells #[.int .i64 3, .int .i64 (n : Int), .string ⟨#[]⟩] 28) = W0 := ⟨_, rfl⟩
 obtain ⟨kb, hkb⟩ : ∃ kb, w.heap.size = kb := ⟨_, rfl⟩
 have bx := Box.new w 28 #[.int .i64 3, .int .i64 (n : Int), .string ⟨#[]⟩]
 rw [hW0] at bb bx
 rw [hkb] at bx
 have HW0 := Veil.mk (And.intro hW0 hkb)
 have HB := Veil.mk (And.intro bb bx)
 have HI := Veil.mk (is_int n hn W0)
 have c0 : W0.cell? ⟨kb, 0, none⟩ = some (.int .i64 3) := bx.at_ 0
 have c1 : W0.cell? ⟨kb, 1, none⟩ = some (.int .i64 (n : Int)) := bx.at_ 1
 have c2 : W0.cell? ⟨kb, 2, none⟩ = some (.string ⟨#[]⟩) := bx.at_ 2
 have HSZ : Veil ((⟨(dgs n).toArray⟩ : ByteArray).size <= 16777216) := ⟨by
  unfold dgs
  split
  ·show 1 <= 16777216; omega
  ·split
   ·show 2 <= 16777216; omega
   ·show 3 <= 16777216; omega⟩
 clear bb bx hW0 hkb hn
 go_enter Tryz.func117, Tryz.ntmps117
 go_upto_region 1 with (fail)
 rw [HW0.out.1, HW0.out.2]
 go_upto_region 4 with (go_at_call 137; ((with_reducible refine HI.out.mono ?_); rintro e w1 ⟨rfl, hb1⟩; have HB1 := Veil.mk hb1; clear hb1))
 have d0 : w1.cell? ⟨kb, 0, none⟩ = some (.int .i64 3) := (HB.out.2.below HB1.out).at_ 0
 have d1 : w1.cell? ⟨kb, 1, none⟩ = some (.int .i64 (n : Int)) := (HB.out.2.below HB1.out).at_ 1
 have d2 : w1.cell? ⟨kb, 2, none⟩ = some (.string ⟨#[]⟩) := (HB.out.2.below HB1.out).at_ 2
 have HNT := Veil.mk (numText_int n w1 ⟨fun w' hb => HF.out w' ((HB.out.1.trans (HB1.out.mono HB.out.1.size)).trans (hb.mono (HB.out.1.trans (HB1.out.mono HB.out.1.size)).size))⟩)
 have HOC : Veil (∀ w', Calls Tryz.prog 78 #[.string ⟨(dgs n).toArray⟩] w' fun e w9 => e = .returned (.string (kI n)) /\ Below w'.heap.size w' w9) := ⟨fun w' => W.of_const ⟨(dgs n).toArray⟩ _ HSZ.out (by show _ = _; rfl) w'⟩
 clear c0 c1 c2
 go_wp2_with (first | (go_at_call 138; ((with_reducible refine HNT.out.mono ?_); rintro e w2 ⟨rfl, hb2⟩; have HB2 := Veil.mk hb2; clear hb2)) | (go_at_call 78; ((with_reducible refine (HOC.out _).mono ?_); rintro e w3 ⟨rfl, hb3⟩)))
 go_ret2
 exact ⟨rfl, blw2 (blw2 (blw2 HB.out.1 HB1.out) HB2.out) hb3⟩
theorem property_int (n : Nat) (hn : n < 512) (w : World) (HF : Veil (∀ w', Below w.heap.size w w' -> Calls Tryz.prog 154 #[.int .i64 (n : Int), .int .i64 10] w' fun e w9 => e = .returned (.string ⟨(dgs n).toArray⟩) /\ Below w'.heap.size w' w9)) : Calls Tryz.prog 85 #[valV (3, (n : Int), ⟨#[]⟩)] w fun e w' => e = .returned (.tuple #[valV (7, 0, kI n), .int .i64 0]) /\ Below w.heap.size w w' := by
 obtain ⟨kb, hkb⟩ : ∃ kb, w.heap.size = kb := ⟨_, rfl⟩
 obtain ⟨rb, hrb⟩ : ∃ rb, kb + 1 = rb := ⟨_, rfl⟩
 obtain ⟨W0, hW0⟩ : ∃ W0, ((w.alloc (.cells #[.int .i64 3, .int .i64 (n : Int), .string ⟨#[]⟩] 28)).alloc (.cells #[.int .i64 0, .int .i64 0, .string ⟨#[]⟩] 28)) = W0 := ⟨_, rfl⟩
 have bb : Below w.heap.size w W0 := by rw [<- hW0]; exact (((Below.refl _ w).alloc (Nat.le_refl _) _).alloc (by simp only [World.size_alloc]; omega) _)
 have xkb : Box W0 kb 28 #[.int .i64 3, .int .i64 (n : Int), .string ⟨#[]⟩] := by have h9 := ((Box.new w 28 #[.int .i64 3, .int .i64 (n : Int), .string ⟨#[]⟩]).more (.cells #[.int .i64 0, .int .i64 0, .string ⟨#[]⟩] 28)); rw [hW0, hkb] at h9; exact h9
 have xrb : Box W0 rb 28 #[.int .i64 0, .int .i64 0, .string ⟨#[]⟩] := by have h9 := Box.new (w.alloc (.cells #[.int .i64 3, .int .i64 (n : Int), .string ⟨#[]⟩] 28)) 28 #[.int .i64 0, .int .i64 0, .string ⟨#[]⟩]; rw [hW0, show (w.alloc (.cells #[.int .i64 3, .int .i64 (n : Int), .string ⟨#[]⟩] 28)).heap.size = rb from by simp only [World.size_alloc]; omega] at h9; exact h9
 have HW0 := Veil.mk (And.intro hW0 (And.intro hkb (hrb)))
 have HBB := Veil.mk (And.intro bb (And.intro xkb (xrb)))
 have HLO : Veil (w.heap.size <= kb /\ w.heap.size <= rb) := ⟨by omega⟩
 clear hW0 bb hkb xkb hrb xrb
 have HT := Veil.mk (text_int n hn W0 ⟨fun w' hb => HF.out w' (HBB.out.1.trans (hb.mono HBB.out.1.size))⟩)
 clear HF hn
 go_enter Tryz.func85, Tryz.ntmps85
 go_upto_region 1 with (fail)
 rw [HW0.out.1, HW0.out.2.1, HW0.out.2.2]
 have c0 : W0.cell? ⟨kb, 0, none⟩ = some (.int .i64 3) := HBB.out.2.1.at_ 0
 have c1 : W0.cell? ⟨kb, 1, none⟩ = some (.int .i64 (n : Int)) := HBB.out.2.1.at_ 1
 have c2 : W0.cell? ⟨kb, 2, none⟩ = some (.string ⟨#[]⟩) := HBB.out.2.1.at_ 2
 go_wp2_with (go_at_call 117; ((with_reducible refine HT.out.mono ?_); rintro e w1 ⟨rfl, hb1⟩; have HB1 := Veil.mk hb1; have HR := Veil.mk (HBB.out.2.2.below hb1); clear hb1; have z0 : w1.cell? ⟨rb, 0, none⟩ = some (.int .i64 0) := HR.out.at_ 0; have z1 : w1.cell? ⟨rb, 1, none⟩ = some (.int .i64 0) := HR.out.at_ 1; have z2 : w1.cell? ⟨rb, 2, none⟩ = some (.string ⟨#[]⟩) := HR.out.at_ 2; have q0 := HR.out.free 0; have q1 := HR.out.free 1; have q2 := HR.out.free 2))
 have hr3 := ((HR.out.put 0 (.int .i64 7)).put 1 (.int .i64 0)).put 2 (.string (kI n))
 have y0 := hr3.at_ 0
 have y1 := hr3.at_ 1
 have y2 := hr3.at_ 2
 have hrb : w.heap.size <= rb := HLO.out.2
 have hbW := HBB.out.1.trans (HB1.out.mono HBB.out.1.size)
 exact bodyPost_ret (v := .tuple #[valV (7, 0, kI n), .int .i64 0]) (by simp [results, Tryz.results85, go_sem, y0, y1, y2]) rfl ⟨rfl, ((hbW.setCell (p := ⟨rb, 0, none⟩) hrb _).setCell (p := ⟨rb, 1, none⟩) hrb _).setCell (p := ⟨rb, 2, none⟩) hrb _⟩
theorem fmt_small (n : Nat) (hn : n < 100) (w : World) : Calls Tryz.prog 154 #[.int .i64 (n : Int), .int .i64 10] w fun e w9 => e = .returned (.string ⟨(dgs n).toArray⟩) /\ Below w.heap.size w w9 := by
 have h := Tryz.strconv_FormatInt_10_small n hn w
 rw [dec_small n hn] at h
 refine h.mono ?_
 rintro e w' ⟨he, rfl⟩
 exact ⟨he, Below.refl _ _⟩
end Go.Proofs.YtahkohfppakaiaaGreatDoor
