/- Texts of the stage, joined: Zq Zr Zs Zt Zu Zv Zw Zx Zy La Lb Lc Ld Le Lf Lg Lw Ya Yb Lh. -/
import Derived.Test.YtahkohfppakaiaaGreatDoorRm
import Derived.Test.YtahkohfppakaiaaGreatDoorRb
import Derived.BigQuiet
import Derived.Deep.AppendLies
import Derived.Deep.RegionLaw
import Derived.RangeFuncFrom
namespace Go.Proofs.YtahkohfppakaiaaGreatDoor
open Go Go.RowKit
attribute [local go_sem] Oper.semAt_some
theorem val_value (w : World) : Calls Tryz.prog 44 #[.string ⟨#[118, 97, 108, 117, 101]⟩] w fun e w' => e = .returned (valV kVal) /\ Below w.heap.size w w' :=
 W.val_const _ [0, 118, 0, 97, 0, 108, 0, 117, 0, 101] (by decide) (show Hid _ from (by decide +kernel : W.ofB ⟨#[118, 97, 108, 117, 101]⟩ = [0, 118, 0, 97, 0, 108, 0, 117, 0, 101])) w
theorem val_done (w : World) : Calls Tryz.prog 44 #[.string ⟨#[100, 111, 110, 101]⟩] w fun e w' => e = .returned (valV kDone) /\ Below w.heap.size w w' :=
 W.val_const _ [0, 100, 0, 111, 0, 110, 0, 101] (by decide) (show Hid _ from (by decide +kernel : W.ofB ⟨#[100, 111, 110, 101]⟩ = [0, 100, 0, 111, 0, 110, 0, 101])) w
theorem look_val (v : Vt) (d : Vt) : lookO [(kVal, v, 7), (kDone, d, 7)] kVal = (v, 7, true) := by
 unfold lookO
 rw [List.find?_cons_of_pos (by simp)]
theorem look_done (v : Vt) (d : Vt) : lookO [(kVal, v, 7), (kDone, d, 7)] kDone = (d, 7, true) := by
 unfold lookO
 rw [List.find?_cons_of_neg (by show ¬ (decide (kVal = kDone) = true); decide +kernel), List.find?_cons_of_pos (by simp)]
section
variable {W : World} {h A m : Nat} {f : MF} {ts : List TO}
theorem MP.part (H : MP W h A m f ts) (hl : ts.length < 100000) {ir : Nat} {t t0 : TO} (ht : ts[ir]? = some t) (hcl : t.cl = 0) (hpr : t.proto = 1) (h0 : ts[0]? = some t0) (hp0 : PlT t0 0 []) (nm : ByteArray) (k v : Vt) (hlk : lookO t.O k = (v, 7, true)) (hk6 : keyT k = k) (hks : k.2.2.size <= 1000)
  (HV : ∀ w, Calls Tryz.prog 44 #[.string nm] w fun e w' => e = .returned (valV k) /\ Below w.heap.size w w') :
  Calls Tryz.prog 21 #[.pointer (some ⟨m, 0, none⟩), valV (9, (ir : Int) + 1, ⟨#[]⟩), .string nm] W fun e w' => e = .returned (.tuple #[valV v, .int .i64 0]) /\ Below W.heap.size W w' := by
 obtain ⟨p1, p2, p3, p4, p5, p6⟩ := hp0
 refine member_w W m (9, (ir : Int) + 1, ⟨#[]⟩) k v nm ⟨fun W' => HV W'⟩ ⟨fun W' hb => ?_⟩
 refine getkey_w W' m _ _ _ rfl ⟨fun W2 hb2 => ?_⟩
 have H2 := H.on (hb.trans (hb2.mono hb.size))
 refine getfrom_w W2 m h _ 7 true _ _ _ (by decide) (H2.mm.mb.at_ 0) H2.mm.mb.lt ⟨fun W4 hb4 => ?_⟩
 have H4 := H2.on hb4
 have ho1 := H4.ownT ht (by rw [hcl]; rfl) k (.inl (by rw [hcl]; rfl)) hk6 hks
 have ho2 := H4.ownT h0 (by rw [p1]; rfl) k (.inl (by rw [p1]; rfl)) hk6 hks
 rw [hlk] at ho1
 exact H4.find2 (by omega) ir 0 t t0 ht h0 (by rw [hcl]; rfl) (by rw [p1]; rfl) (by rw [hpr]; rfl) p2 _ _ _ ho1 ho2
end
end Go.Proofs.YtahkohfppakaiaaGreatDoor
namespace Go.Proofs.YtahkohfppakaiaaGreatDoor.W
open Go Go.RowKit
attribute [local go_sem] Oper.semAt_some
end Go.Proofs.YtahkohfppakaiaaGreatDoor.W
namespace Go.Proofs.YtahkohfppakaiaaGreatDoor
open Go Go.RowKit
attribute [local go_sem] Oper.semAt_some
section
variable {w W W' : World} {G : List (Nat × TypeId × Array Value)} {h A m g iw o i : Nat} {ts : List TO} {E : Nat -> Prop} {st kd : Int} {s : ByteArray}
end
end Go.Proofs.YtahkohfppakaiaaGreatDoor
namespace Go.Proofs.YtahkohfppakaiaaGreatDoor
open Go Go.RowKit
end Go.Proofs.YtahkohfppakaiaaGreatDoor
namespace Go.Proofs.YtahkohfppakaiaaGreatDoor
open Go Go.RowKit
attribute [local go_sem] Oper.semAt_some
theorem true_false (W : World) : Calls Tryz.prog 22 #[valV (tvV false)] W fun e w' => e = .returned (.bool false) /\ Below W.heap.size W w' := by
 rw [show tvV false = ((2, 0, ⟨#[]⟩) : Vt) from rfl]
 obtain ⟨xb, hxb⟩ : ∃ xb, W.heap.size = xb := ⟨_, rfl⟩
 obtain ⟨W0, hW0⟩ : ∃ W0, (W.alloc (.cells #[.int .i64 2, .int .i64 0, .string ⟨#[]⟩] 28)) = W0 := ⟨_, rfl⟩
 have bb : Below W.heap.size W W0 := by rw [<- hW0]; exact ((Below.refl _ _).alloc (Nat.le_refl _) _)
 have xxb : Box W0 xb 28 #[.int .i64 2, .int .i64 0, .string ⟨#[]⟩] := by have h9 := Box.new W 28 #[.int .i64 2, .int .i64 0, .string ⟨#[]⟩]; rw [hW0, hxb] at h9; exact h9
 have HW0 := Veil.mk (And.intro hW0 (hxb))
 have HBB := Veil.mk (And.intro bb (xxb))
 have HLO : Veil (W.heap.size <= xb) := ⟨by omega⟩
 clear hW0 bb hxb xxb
 have c0 : W0.cell? ⟨xb, 0, none⟩ = some (.int .i64 2) := HBB.out.2.at_ 0
 have c1 : W0.cell? ⟨xb, 1, none⟩ = some (.int .i64 0) := HBB.out.2.at_ 1
 go_enter Tryz.func22, Tryz.ntmps22
 go_upto_region 1 with (fail)
 rw [HW0.out.1, HW0.out.2]
 go_wp2
 go_ret
 exact ⟨rfl, HBB.out.1⟩
theorem true_true (W : World) : Calls Tryz.prog 22 #[valV (tvV true)] W fun e w' => e = .returned (.bool true) /\ Below W.heap.size W w' := by
 rw [show tvV true = ((2, 1, ⟨#[]⟩) : Vt) from rfl]
 obtain ⟨xb, hxb⟩ : ∃ xb, W.heap.size = xb := ⟨_, rfl⟩
 obtain ⟨W0, hW0⟩ : ∃ W0, (W.alloc (.cells #[.int .i64 2, .int .i64 1, .string ⟨#[]⟩] 28)) = W0 := ⟨_, rfl⟩
 have bb : Below W.heap.size W W0 := by rw [<- hW0]; exact ((Below.refl _ _).alloc (Nat.le_refl _) _)
 have xxb : Box W0 xb 28 #[.int .i64 2, .int .i64 1, .string ⟨#[]⟩] := by have h9 := Box.new W 28 #[.int .i64 2, .int .i64 1, .string ⟨#[]⟩]; rw [hW0, hxb] at h9; exact h9
 have HW0 := Veil.mk (And.intro hW0 (hxb))
 have HBB := Veil.mk (And.intro bb (xxb))
 have HLO : Veil (W.heap.size <= xb) := ⟨by omega⟩
 clear hW0 bb hxb xxb
 have c0 : W0.cell? ⟨xb, 0, none⟩ = some (.int .i64 2) := HBB.out.2.at_ 0
 have c1 : W0.cell? ⟨xb, 1, none⟩ = some (.int .i64 1) := HBB.out.2.at_ 1
 go_enter Tryz.func22, Tryz.ntmps22
 go_upto_region 1 with (fail)
 rw [HW0.out.1, HW0.out.2]
 go_wp2
 go_ret
 exact ⟨rfl, HBB.out.1⟩
theorem true_v (d : Bool) (W : World) : Calls Tryz.prog 22 #[valV (tvV d)] W fun e w' => e = .returned (.bool d) /\ Below W.heap.size W w' := by
 cases d
 ·exact true_false W
 ·exact true_true W
section
variable {w W : World} {G : List (Nat × TypeId × Array Value)} {h A m g iw o ob ir : Nat} {ts : List TO} {cs : Array Value} {E : Nat -> Prop} {st kd at_ : Int} {sl pv : Value} {F : Nat -> Prop} {v : Vt} {d : Bool}
end
end Go.Proofs.YtahkohfppakaiaaGreatDoor
namespace Go.Proofs.YtahkohfppakaiaaGreatDoor
open Go Go.RowKit
section
variable {w W : World} {G : List (Nat × TypeId × Array Value)} {h A m g iw o i : Nat} {ts : List TO} {E : Nat -> Prop} {st kd : Int} {l : List Nat}
end
end Go.Proofs.YtahkohfppakaiaaGreatDoor
namespace Go.Proofs.YtahkohfppakaiaaGreatDoor
open Go Go.RowKit
attribute [local go_sem] Oper.semAt_some
section
variable {P : Nat -> (Nat -> Prop) -> World -> Prop} {W : World} {B0 m : Nat} {fv : Vt} {vs : List Vt} {E0 : Nat -> Prop}
end
end Go.Proofs.YtahkohfppakaiaaGreatDoor
namespace Go.Proofs.YtahkohfppakaiaaGreatDoor
open Go Go.RowKit
section
variable {w W W' : World} {G : List (Nat × TypeId × Array Value)} {h A m g : Nat} {ts : List TO} {cs : Array Value} {E : Nat -> Prop} {st : Int}
end
section
variable {w : World} {G : List (Nat × TypeId × Array Value)} {h A m g iw o n0 : Nat} {kd st : Int} {l : List Nat}
end
end Go.Proofs.YtahkohfppakaiaaGreatDoor
namespace Go.Proofs.YtahkohfppakaiaaGreatDoor
open Go Go.RowKit
attribute [local go_sem] Oper.semAt_some
set_option maxHeartbeats 16000000 in
set_option maxRecDepth 100000 in
theorem hasel_yes {w : World} {B0 o n i : Nat} {proto : Int} {cs : Bool} {pv fn : Value} {kd : KD} {ev : Value} {xs : Nat -> Vt} (hb : Box w o 63 (objF 1 proto cs pv ev fn kd)) (he : EL w B0 ev n xs) (hin : i < n) (_hn9 : n <= 1000000) (hx : (xs i).1 ≠ 10) (s : ByteArray) :
  Calls Tryz.prog 83 #[.pointer (some ⟨o, 0, none⟩), valV (3, (i : Int), s)] w fun e w' => e = .returned (.bool true) /\ Below w.heap.size w w' := by
 obtain ⟨g, cap, rfl, hel⟩ : ∃ g cap, ev = .slice (some ⟨g, 0, none⟩) n cap /\ ELg w B0 g n cap xs := by
  rcases he with ⟨-, e2⟩ | ⟨g, cap, e1, he⟩
  ·omega
  ·exact ⟨g, cap, e1, he⟩
 have hc := (hel.cell i (Nat.lt_of_lt_of_le hin hel.le)).1
 have hgl := hel.lt
 obtain ⟨x, hxe⟩ : ∃ x, (xs i).1 = x := ⟨_, rfl⟩
 rw [hxe] at hc hx
 obtain ⟨kb, hkb⟩ : ∃ kb, w.heap.size = kb := ⟨_, rfl⟩
 obtain ⟨W0, hW0⟩ : ∃ W0, (w.alloc (.cells #[.int .i64 3, .int .i64 (i : Int), .string s] 28)) = W0 := ⟨_, rfl⟩
 have bb : Below w.heap.size w W0 := by rw [<- hW0]; exact ((Below.refl _ _).alloc (Nat.le_refl _) _)
 have xkb : Box W0 kb 28 #[.int .i64 3, .int .i64 (i : Int), .string s] := by have h9 := Box.new w 28 #[.int .i64 3, .int .i64 (i : Int), .string s]; rw [hW0, hkb] at h9; exact h9
 have HW0 := Veil.mk (And.intro hW0 (hkb))
 have HBB := Veil.mk (And.intro bb (xkb))
 have HLO : Veil (w.heap.size <= kb) := ⟨by omega⟩
 clear hW0 bb hkb xkb
 have HOB0 := Veil.mk (And.intro hb (And.intro hgl hc))
 have hi0 : (0 : Int) <= (i : Int) := by omega
 have hin' : (i : Int) < (n : Int) := by omega
 have hxb : (x != 10) = true := by simpa using hx
 clear hb he hel hc hgl hxe
 go_enter Tryz.func83, Tryz.ntmps83
 go_upto_region 1 with (fail)
 rw [HW0.out.1, HW0.out.2]
 obtain ⟨WD, hWD⟩ : ∃ WD, W0.drew = WD := ⟨_, rfl⟩
 have HBF : Veil (Below w.heap.size w WD) := ⟨by rw [<- hWD]; exact HBB.out.1.drew⟩
 have HKB : Veil (Box WD kb 28 #[.int .i64 3, .int .i64 (i : Int), .string s]) := ⟨by rw [<- hWD]; exact HBB.out.2.drew⟩
 have HOB := Veil.mk (HOB0.out.1.below HBF.out)
 have HEL : Veil (g < WD.heap.size /\ WD.cell? ⟨g, i * 3, none⟩ = some (.int .i64 x)) := ⟨by have := HBF.out.size; have := HOB0.out.2.1; omega, (HBF.out.cell (p := ⟨g, i * 3, none⟩) HOB0.out.2.1).trans HOB0.out.2.2⟩
 have HWD := Veil.mk hWD
 clear hWD HBB HOB0 HW0
 refine wp_region_chain (some (· = .pointer (some ⟨o, 0, none⟩)) :: some (· = .pointer (some ⟨o, 0, none⟩)) :: some (· = .pointer (some ⟨o, 0, none⟩)) :: some (· = .int .i64 1) :: some (· = (.bool true)) :: some (· = (.bool true)) :: some (· = .pointer (some ⟨kb, 0, none⟩)) :: some (· = .int .i64 3) :: some (· = (.bool true)) :: some (· = (.bool true)) :: some (· = (.bool true)) :: some (· = .pointer (some ⟨kb, 1, none⟩)) :: some (· = .int .i64 (i : Int)) :: some (· = (.bool true)) :: some (· = (.bool true)) :: some (· = (.bool true)) :: some (· = .pointer (some ⟨kb, 1, none⟩)) :: some (· = .int .i64 (i : Int)) :: some (· = .pointer (some ⟨o, 0, none⟩)) :: some (· = .pointer (some ⟨o, 0, none⟩)) :: some (· = .pointer (some ⟨o, 4, none⟩)) :: some (· = .slice (some ⟨g, 0, none⟩) n cap) :: some (· = .int .i64 (n : Int)) :: some (· = (.bool true)) :: some (· = (.bool true)) :: some (· = (.bool true)) :: some (· = .pointer (some ⟨o, 0, none⟩)) :: some (· = .pointer (some ⟨o, 0, none⟩)) :: some (· = .pointer (some ⟨o, 4, none⟩)) :: some (· = .slice (some ⟨g, 0, none⟩) n cap) :: some (· = .pointer (some ⟨kb, 1, none⟩)) :: some (· = .int .i64 (i : Int)) :: some (· = .pointer (some ⟨g, i * 3, none⟩)) :: some (· = .pointer (some ⟨g, i * 3, none⟩)) :: some (· = .int .i64 x) :: some (· = (.bool true)) :: some (· = (.bool true)) :: some (· = (.bool true)) :: [] : List (Option (Value -> Prop))) (QT WD) (some 5 :: some 6 :: some 7 :: some 8 :: some 9 :: some 10 :: some 11 :: some 12 :: some 13 :: some 14 :: some 15 :: some 16 :: some 17 :: some 18 :: some 19 :: some 20 :: some 21 :: some 22 :: some 23 :: some 24 :: some 25 :: some 26 :: some 27 :: some 28 :: some 29 :: some 30 :: some 31 :: some 32 :: some 33 :: some 34 :: some 35 :: some 36 :: some 37 :: some 38 :: some 39 :: some 40 :: some 41 :: some 4 :: [] : List (Option Nat)) (curV' _ (some 5 :: some 6 :: some 7 :: some 8 :: some 9 :: some 10 :: some 11 :: some 12 :: some 13 :: some 14 :: some 15 :: some 16 :: some 17 :: some 18 :: some 19 :: some 20 :: some 21 :: some 22 :: some 23 :: some 24 :: some 25 :: some 26 :: some 27 :: some 28 :: some 29 :: some 30 :: some 31 :: some 32 :: some 33 :: some 34 :: some 35 :: some 36 :: some 37 :: some 38 :: some 39 :: some 40 :: some 41 :: some 4 :: [] : List (Option Nat))) (by kernel_rfl) rfl rfl (puts_cur _ _) (by rw [HWD.out]; exact QT.start) ?_ (by kernel_rfl) ?_
 ·refine SV rfl (fun _ _ _ _ _ S => ?_) ?_
  ·obtain ⟨_, _, _, _, _, _, _, _, _, _, _, _, _, _, _, _, _, _, _, _, _, _, _, _, _, _, _, _, _, _, _, _, _, _, _, _, _, _, rfl⟩ := lenA38 S.hu
   rw [pin S.ha]
   go_simp
   exact S.kS 0 _ rfl rfl rfl rfl (S.hI.ph.pure 0 _)
  refine SV rfl (fun _ _ _ _ _ S => ?_) ?_
  ·obtain ⟨u0, _, _, _, _, _, _, _, _, _, _, _, _, _, _, _, _, _, _, _, _, _, _, _, _, _, _, _, _, _, _, _, _, _, _, _, _, _, rfl⟩ := lenA38 S.hu
   obtain rfl : u0 = _ := S.q 0 rfl
   rw [pin S.ha]
   go_simp
   exact S.kS 1 _ rfl rfl rfl rfl (S.hI.ph.pure 1 _)
  refine SV rfl (fun _ _ _ _ _ S => ?_) ?_
  ·obtain ⟨_, u1, _, _, _, _, _, _, _, _, _, _, _, _, _, _, _, _, _, _, _, _, _, _, _, _, _, _, _, _, _, _, _, _, _, _, _, _, rfl⟩ := lenA38 S.hu
   obtain rfl : u1 = _ := S.q 1 rfl
   rw [pin S.ha]
   go_simp
   exact S.kS 2 _ rfl rfl rfl rfl (S.hI.ph.pure 2 _)
  refine SV rfl (fun _ _ w' _ _ S => ?_) ?_
  ·obtain ⟨_, _, u2, _, _, _, _, _, _, _, _, _, _, _, _, _, _, _, _, _, _, _, _, _, _, _, _, _, _, _, _, _, _, _, _, _, _, _, rfl⟩ := lenA38 S.hu
   obtain rfl : u2 = _ := S.q 2 rfl
   have hbl := S.hI.ph.b
   have c0 : w'.cell? ⟨o, 0, none⟩ = some (.int .i64 1) := (HOB.out.below hbl).at_ 0
   clear hbl
   rw [pin S.ha]
   go_simp
   exact S.kS 3 _ rfl rfl rfl rfl (S.hI.ph.pure 3 _)
  refine SV rfl (fun _ _ _ _ _ S => ?_) ?_
  ·obtain ⟨_, _, _, u3, _, _, _, _, _, _, _, _, _, _, _, _, _, _, _, _, _, _, _, _, _, _, _, _, _, _, _, _, _, _, _, _, _, _, rfl⟩ := lenA38 S.hu
   obtain rfl : u3 = _ := S.q 3 rfl
   rw [pin S.ha]
   go_simp
   exact S.kS 4 _ rfl rfl rfl rfl (S.hI.ph.pure 4 _)
  refine SV rfl (fun _ _ _ _ _ S => ?_) ?_
  ·obtain ⟨_, _, _, _, u4, _, _, _, _, _, _, _, _, _, _, _, _, _, _, _, _, _, _, _, _, _, _, _, _, _, _, _, _, _, _, _, _, _, rfl⟩ := lenA38 S.hu
   obtain rfl : u4 = _ := S.q 4 rfl
   rw [pin S.ha]
   go_simp
   exact S.kS 5 _ rfl rfl rfl rfl (S.hI.ph.pure 5 _)
  refine SW (fun _ _ _ _ _ S => ?_) ?_
  ·obtain ⟨_, _, _, _, _, u5, _, _, _, _, _, _, _, _, _, _, _, _, _, _, _, _, _, _, _, _, _, _, _, _, _, _, _, _, _, _, _, _, rfl⟩ := lenA38 S.hu
   obtain rfl : u5 = _ := S.q 5 rfl
   rw [if_pos (S.wt 5 10)]
   rw [pin S.ha]
   go_simp
   exact S.kS 6 _ rfl rfl rfl rfl (S.hI.ph.pure 6 _)
  refine SW (fun _ _ w' _ _ S => ?_) ?_
  ·obtain ⟨_, _, _, _, _, u5, u6, _, _, _, _, _, _, _, _, _, _, _, _, _, _, _, _, _, _, _, _, _, _, _, _, _, _, _, _, _, _, _, rfl⟩ := lenA38 S.hu
   obtain rfl : u6 = _ := S.q 6 rfl
   obtain rfl : u5 = _ := S.q 5 rfl
   rw [if_pos (S.wt 5 10)]
   have hbl := S.hI.ph.b
   have c0 : w'.cell? ⟨kb, 0, none⟩ = some (.int .i64 3) := (HKB.out.below hbl).at_ 0
   clear hbl
   rw [pin S.ha]
   go_simp
   exact S.kS 7 _ rfl rfl rfl rfl (S.hI.ph.pure 7 _)
  refine SW (fun _ _ _ _ _ S => ?_) ?_
  ·obtain ⟨_, _, _, _, _, u5, _, u7, _, _, _, _, _, _, _, _, _, _, _, _, _, _, _, _, _, _, _, _, _, _, _, _, _, _, _, _, _, _, rfl⟩ := lenA38 S.hu
   obtain rfl : u7 = _ := S.q 7 rfl
   obtain rfl : u5 = _ := S.q 5 rfl
   rw [if_pos (S.wt 5 10)]
   rw [pin S.ha]
   go_simp
   exact S.kS 8 _ rfl rfl rfl rfl (S.hI.ph.pure 8 _)
  refine SV rfl (fun _ _ _ _ _ S => ?_) ?_
  ·obtain ⟨_, _, _, _, _, u5, _, _, u8, _, _, _, _, _, _, _, _, _, _, _, _, _, _, _, _, _, _, _, _, _, _, _, _, _, _, _, _, _, rfl⟩ := lenA38 S.hu
   obtain rfl : u5 = _ := S.q 5 rfl
   obtain rfl : u8 = _ := S.q 8 rfl
   rw [pin S.ha]
   go_simp
   exact S.kS 9 _ rfl rfl rfl rfl (S.hI.ph.pure 9 _)
  refine SV rfl (fun _ _ _ _ _ S => ?_) ?_
  ·obtain ⟨_, _, _, _, _, _, _, _, _, u9, _, _, _, _, _, _, _, _, _, _, _, _, _, _, _, _, _, _, _, _, _, _, _, _, _, _, _, _, rfl⟩ := lenA38 S.hu
   obtain rfl : u9 = _ := S.q 9 rfl
   rw [pin S.ha]
   go_simp
   exact S.kS 10 _ rfl rfl rfl rfl (S.hI.ph.pure 10 _)
  refine SW (fun _ _ _ _ _ S => ?_) ?_
  ·obtain ⟨_, _, _, _, _, _, _, _, _, _, u10, _, _, _, _, _, _, _, _, _, _, _, _, _, _, _, _, _, _, _, _, _, _, _, _, _, _, _, rfl⟩ := lenA38 S.hu
   obtain rfl : u10 = _ := S.q 10 rfl
   rw [if_pos (S.wt 10 15)]
   rw [pin S.ha]
   go_simp
   exact S.kS 11 _ rfl rfl rfl rfl (S.hI.ph.pure 11 _)
  refine SW (fun _ _ w' _ _ S => ?_) ?_
  ·obtain ⟨_, _, _, _, _, _, _, _, _, _, u10, u11, _, _, _, _, _, _, _, _, _, _, _, _, _, _, _, _, _, _, _, _, _, _, _, _, _, _, rfl⟩ := lenA38 S.hu
   obtain rfl : u11 = _ := S.q 11 rfl
   obtain rfl : u10 = _ := S.q 10 rfl
   rw [if_pos (S.wt 10 15)]
   have hbl := S.hI.ph.b
   have c1 : w'.cell? ⟨kb, 1, none⟩ = some (.int .i64 (i : Int)) := (HKB.out.below hbl).at_ 1
   clear hbl
   rw [pin S.ha]
   go_simp
   exact S.kS 12 _ rfl rfl rfl rfl (S.hI.ph.pure 12 _)
  refine SW (fun _ _ _ _ _ S => ?_) ?_
  ·obtain ⟨_, _, _, _, _, _, _, _, _, _, u10, _, u12, _, _, _, _, _, _, _, _, _, _, _, _, _, _, _, _, _, _, _, _, _, _, _, _, _, rfl⟩ := lenA38 S.hu
   obtain rfl : u12 = _ := S.q 12 rfl
   obtain rfl : u10 = _ := S.q 10 rfl
   rw [if_pos (S.wt 10 15)]
   rw [pin S.ha]
   go_simp
   exact S.kS 13 _ rfl rfl rfl rfl (S.hI.ph.pure 13 _)
  refine SV rfl (fun _ _ _ _ _ S => ?_) ?_
  ·obtain ⟨_, _, _, _, _, _, _, _, _, _, u10, _, _, u13, _, _, _, _, _, _, _, _, _, _, _, _, _, _, _, _, _, _, _, _, _, _, _, _, rfl⟩ := lenA38 S.hu
   obtain rfl : u10 = _ := S.q 10 rfl
   obtain rfl : u13 = _ := S.q 13 rfl
   rw [pin S.ha]
   go_simp
   exact S.kS 14 _ rfl rfl rfl rfl (S.hI.ph.pure 14 _)
  refine SV rfl (fun _ _ _ _ _ S => ?_) ?_
  ·obtain ⟨_, _, _, _, _, _, _, _, _, _, _, _, _, _, u14, _, _, _, _, _, _, _, _, _, _, _, _, _, _, _, _, _, _, _, _, _, _, _, rfl⟩ := lenA38 S.hu
   obtain rfl : u14 = _ := S.q 14 rfl
   rw [pin S.ha]
   go_simp
   exact S.kS 15 _ rfl rfl rfl rfl (S.hI.ph.pure 15 _)
  refine SW (fun _ _ _ _ _ S => ?_) ?_
  ·obtain ⟨_, _, _, _, _, _, _, _, _, _, _, _, _, _, _, u15, _, _, _, _, _, _, _, _, _, _, _, _, _, _, _, _, _, _, _, _, _, _, rfl⟩ := lenA38 S.hu
   obtain rfl : u15 = _ := S.q 15 rfl
   rw [if_pos (S.wt 15 20)]
   rw [pin S.ha]
   go_simp
   exact S.kS 16 _ rfl rfl rfl rfl (S.hI.ph.pure 16 _)
  refine SW (fun _ _ w' _ _ S => ?_) ?_
  ·obtain ⟨_, _, _, _, _, _, _, _, _, _, _, _, _, _, _, u15, u16, _, _, _, _, _, _, _, _, _, _, _, _, _, _, _, _, _, _, _, _, _, rfl⟩ := lenA38 S.hu
   obtain rfl : u16 = _ := S.q 16 rfl
   obtain rfl : u15 = _ := S.q 15 rfl
   rw [if_pos (S.wt 15 20)]
   have hbl := S.hI.ph.b
   have c1 : w'.cell? ⟨kb, 1, none⟩ = some (.int .i64 (i : Int)) := (HKB.out.below hbl).at_ 1
   clear hbl
   rw [pin S.ha]
   go_simp
   exact S.kS 17 _ rfl rfl rfl rfl (S.hI.ph.pure 17 _)
  refine SW (fun _ _ _ _ _ S => ?_) ?_
  ·obtain ⟨_, _, _, _, _, _, _, _, _, _, _, _, _, _, _, u15, _, _, _, _, _, _, _, _, _, _, _, _, _, _, _, _, _, _, _, _, _, _, rfl⟩ := lenA38 S.hu
   obtain rfl : u15 = _ := S.q 15 rfl
   rw [if_pos (S.wt 15 20)]
   rw [pin S.ha]
   go_simp
   exact S.kS 18 _ rfl rfl rfl rfl (S.hI.ph.pure 18 _)
  refine SW (fun _ _ _ _ _ S => ?_) ?_
  ·obtain ⟨_, _, _, _, _, _, _, _, _, _, _, _, _, _, _, u15, _, _, u18, _, _, _, _, _, _, _, _, _, _, _, _, _, _, _, _, _, _, _, rfl⟩ := lenA38 S.hu
   obtain rfl : u18 = _ := S.q 18 rfl
   obtain rfl : u15 = _ := S.q 15 rfl
   rw [if_pos (S.wt 15 20)]
   rw [pin S.ha]
   go_simp
   exact S.kS 19 _ rfl rfl rfl rfl (S.hI.ph.pure 19 _)
  refine SW (fun _ _ _ _ _ S => ?_) ?_
  ·obtain ⟨_, _, _, _, _, _, _, _, _, _, _, _, _, _, _, u15, _, _, _, u19, _, _, _, _, _, _, _, _, _, _, _, _, _, _, _, _, _, _, rfl⟩ := lenA38 S.hu
   obtain rfl : u19 = _ := S.q 19 rfl
   obtain rfl : u15 = _ := S.q 15 rfl
   rw [if_pos (S.wt 15 20)]
   rw [pin S.ha]
   go_simp
   exact S.kS 20 _ rfl rfl rfl rfl (S.hI.ph.pure 20 _)
  refine SW (fun _ _ w' _ _ S => ?_) ?_
  ·obtain ⟨_, _, _, _, _, _, _, _, _, _, _, _, _, _, _, u15, _, _, _, _, u20, _, _, _, _, _, _, _, _, _, _, _, _, _, _, _, _, _, rfl⟩ := lenA38 S.hu
   obtain rfl : u20 = _ := S.q 20 rfl
   obtain rfl : u15 = _ := S.q 15 rfl
   rw [if_pos (S.wt 15 20)]
   have hbl := S.hI.ph.b
   have c4 : w'.cell? ⟨o, 4, none⟩ = some (.slice (some ⟨g, 0, none⟩) n cap) := (HOB.out.below hbl).at_ 4
   clear hbl
   rw [pin S.ha]
   go_simp
   exact S.kS 21 _ rfl rfl rfl rfl (S.hI.ph.pure 21 _)
  refine SW (fun _ _ _ _ _ S => ?_) ?_
  ·obtain ⟨_, _, _, _, _, _, _, _, _, _, _, _, _, _, _, u15, _, _, _, _, _, u21, _, _, _, _, _, _, _, _, _, _, _, _, _, _, _, _, rfl⟩ := lenA38 S.hu
   obtain rfl : u21 = _ := S.q 21 rfl
   obtain rfl : u15 = _ := S.q 15 rfl
   rw [if_pos (S.wt 15 20)]
   rw [pin S.ha]
   go_simp
   exact S.kS 22 _ rfl rfl rfl rfl (S.hI.ph.pure 22 _)
  refine SW (fun _ _ _ _ _ S => ?_) ?_
  ·obtain ⟨_, _, _, _, _, _, _, _, _, _, _, _, _, _, _, u15, _, u17, _, _, _, _, u22, _, _, _, _, _, _, _, _, _, _, _, _, _, _, _, rfl⟩ := lenA38 S.hu
   obtain rfl : u17 = _ := S.q 17 rfl
   obtain rfl : u22 = _ := S.q 22 rfl
   obtain rfl : u15 = _ := S.q 15 rfl
   rw [if_pos (S.wt 15 20)]
   rw [pin S.ha]
   go_simp
   exact S.kS 23 _ rfl rfl rfl rfl (S.hI.ph.pure 23 _)
  refine SV rfl (fun _ _ _ _ _ S => ?_) ?_
  ·obtain ⟨_, _, _, _, _, _, _, _, _, _, _, _, _, _, _, u15, _, _, _, _, _, _, _, u23, _, _, _, _, _, _, _, _, _, _, _, _, _, _, rfl⟩ := lenA38 S.hu
   obtain rfl : u15 = _ := S.q 15 rfl
   obtain rfl : u23 = _ := S.q 23 rfl
   rw [pin S.ha]
   go_simp
   exact S.kS 24 _ rfl rfl rfl rfl (S.hI.ph.pure 24 _)
  refine SV rfl (fun _ _ _ _ _ S => ?_) ?_
  ·obtain ⟨_, _, _, _, _, _, _, _, _, _, _, _, _, _, _, _, _, _, _, _, _, _, _, _, u24, _, _, _, _, _, _, _, _, _, _, _, _, _, rfl⟩ := lenA38 S.hu
   obtain rfl : u24 = _ := S.q 24 rfl
   rw [pin S.ha]
   go_simp
   exact S.kS 25 _ rfl rfl rfl rfl (S.hI.ph.pure 25 _)
  refine SW (fun _ _ _ _ _ S => ?_) ?_
  ·obtain ⟨_, _, _, _, _, _, _, _, _, _, _, _, _, _, _, _, _, _, _, _, _, _, _, _, _, u25, _, _, _, _, _, _, _, _, _, _, _, _, rfl⟩ := lenA38 S.hu
   obtain rfl : u25 = _ := S.q 25 rfl
   rw [if_pos (S.wt 25 30)]
   rw [pin S.ha]
   go_simp
   exact S.kS 26 _ rfl rfl rfl rfl (S.hI.ph.pure 26 _)
  refine SW (fun _ _ _ _ _ S => ?_) ?_
  ·obtain ⟨_, _, _, _, _, _, _, _, _, _, _, _, _, _, _, _, _, _, _, _, _, _, _, _, _, u25, u26, _, _, _, _, _, _, _, _, _, _, _, rfl⟩ := lenA38 S.hu
   obtain rfl : u26 = _ := S.q 26 rfl
   obtain rfl : u25 = _ := S.q 25 rfl
   rw [if_pos (S.wt 25 30)]
   rw [pin S.ha]
   go_simp
   exact S.kS 27 _ rfl rfl rfl rfl (S.hI.ph.pure 27 _)
  refine SW (fun _ _ _ _ _ S => ?_) ?_
  ·obtain ⟨_, _, _, _, _, _, _, _, _, _, _, _, _, _, _, _, _, _, _, _, _, _, _, _, _, u25, _, u27, _, _, _, _, _, _, _, _, _, _, rfl⟩ := lenA38 S.hu
   obtain rfl : u27 = _ := S.q 27 rfl
   obtain rfl : u25 = _ := S.q 25 rfl
   rw [if_pos (S.wt 25 30)]
   rw [pin S.ha]
   go_simp
   exact S.kS 28 _ rfl rfl rfl rfl (S.hI.ph.pure 28 _)
  refine SW (fun _ _ w' _ _ S => ?_) ?_
  ·obtain ⟨_, _, _, _, _, _, _, _, _, _, _, _, _, _, _, _, _, _, _, _, _, _, _, _, _, u25, _, _, u28, _, _, _, _, _, _, _, _, _, rfl⟩ := lenA38 S.hu
   obtain rfl : u28 = _ := S.q 28 rfl
   obtain rfl : u25 = _ := S.q 25 rfl
   rw [if_pos (S.wt 25 30)]
   have hbl := S.hI.ph.b
   have c4 : w'.cell? ⟨o, 4, none⟩ = some (.slice (some ⟨g, 0, none⟩) n cap) := (HOB.out.below hbl).at_ 4
   clear hbl
   rw [pin S.ha]
   go_simp
   exact S.kS 29 _ rfl rfl rfl rfl (S.hI.ph.pure 29 _)
  refine SW (fun _ _ _ _ _ S => ?_) ?_
  ·obtain ⟨_, _, _, _, _, _, _, _, _, _, _, _, _, _, _, _, _, _, _, _, _, _, _, _, _, u25, _, _, _, _, _, _, _, _, _, _, _, _, rfl⟩ := lenA38 S.hu
   obtain rfl : u25 = _ := S.q 25 rfl
   rw [if_pos (S.wt 25 30)]
   rw [pin S.ha]
   go_simp
   exact S.kS 30 _ rfl rfl rfl rfl (S.hI.ph.pure 30 _)
  refine SW (fun _ _ w' _ _ S => ?_) ?_
  ·obtain ⟨_, _, _, _, _, _, _, _, _, _, _, _, _, _, _, _, _, _, _, _, _, _, _, _, _, u25, _, _, _, _, u30, _, _, _, _, _, _, _, rfl⟩ := lenA38 S.hu
   obtain rfl : u30 = _ := S.q 30 rfl
   obtain rfl : u25 = _ := S.q 25 rfl
   rw [if_pos (S.wt 25 30)]
   have hbl := S.hI.ph.b
   have c1 : w'.cell? ⟨kb, 1, none⟩ = some (.int .i64 (i : Int)) := (HKB.out.below hbl).at_ 1
   clear hbl
   rw [pin S.ha]
   go_simp
   exact S.kS 31 _ rfl rfl rfl rfl (S.hI.ph.pure 31 _)
  refine SW (fun _ _ _ _ _ S => ?_) ?_
  ·obtain ⟨_, _, _, _, _, _, _, _, _, _, _, _, _, _, _, _, _, _, _, _, _, _, _, _, _, u25, _, _, _, u29, _, u31, _, _, _, _, _, _, rfl⟩ := lenA38 S.hu
   obtain rfl : u29 = _ := S.q 29 rfl
   obtain rfl : u31 = _ := S.q 31 rfl
   obtain rfl : u25 = _ := S.q 25 rfl
   rw [if_pos (S.wt 25 30)]
   rw [pin S.ha]
   go_simp
   exact S.kS 32 _ rfl rfl rfl rfl (S.hI.ph.pure 32 _)
  refine SW (fun _ _ _ _ _ S => ?_) ?_
  ·obtain ⟨_, _, _, _, _, _, _, _, _, _, _, _, _, _, _, _, _, _, _, _, _, _, _, _, _, u25, _, _, _, _, _, _, u32, _, _, _, _, _, rfl⟩ := lenA38 S.hu
   obtain rfl : u32 = _ := S.q 32 rfl
   obtain rfl : u25 = _ := S.q 25 rfl
   rw [if_pos (S.wt 25 30)]
   rw [pin S.ha]
   go_simp
   exact S.kS 33 _ rfl rfl rfl rfl (S.hI.ph.pure 33 _)
  refine SW (fun _ _ w' _ _ S => ?_) ?_
  ·obtain ⟨_, _, _, _, _, _, _, _, _, _, _, _, _, _, _, _, _, _, _, _, _, _, _, _, _, u25, _, _, _, _, _, _, _, u33, _, _, _, _, rfl⟩ := lenA38 S.hu
   obtain rfl : u33 = _ := S.q 33 rfl
   obtain rfl : u25 = _ := S.q 25 rfl
   rw [if_pos (S.wt 25 30)]
   have hbl := S.hI.ph.b
   have c9 : w'.cell? ⟨g, i * 3, none⟩ = some (.int .i64 x) := (hbl.cell (p := ⟨g, i * 3, none⟩) HEL.out.1).trans HEL.out.2
   clear hbl
   rw [pin S.ha]
   go_simp
   exact S.kS 34 _ rfl rfl rfl rfl (S.hI.ph.pure 34 _)
  refine SW (fun _ _ _ _ _ S => ?_) ?_
  ·obtain ⟨_, _, _, _, _, _, _, _, _, _, _, _, _, _, _, _, _, _, _, _, _, _, _, _, _, u25, _, _, _, _, _, _, _, _, u34, _, _, _, rfl⟩ := lenA38 S.hu
   obtain rfl : u34 = _ := S.q 34 rfl
   obtain rfl : u25 = _ := S.q 25 rfl
   rw [if_pos (S.wt 25 30)]
   rw [pin S.ha]
   go_simp
   exact S.kS 35 _ rfl rfl rfl rfl (S.hI.ph.pure 35 _)
  refine SV rfl (fun _ _ _ _ _ S => ?_) ?_
  ·obtain ⟨_, _, _, _, _, _, _, _, _, _, _, _, _, _, _, _, _, _, _, _, _, _, _, _, _, u25, _, _, _, _, _, _, _, _, _, u35, _, _, rfl⟩ := lenA38 S.hu
   obtain rfl : u25 = _ := S.q 25 rfl
   obtain rfl : u35 = _ := S.q 35 rfl
   rw [pin S.ha]
   go_simp
   exact S.kS 36 _ rfl rfl rfl rfl (S.hI.ph.pure 36 _)
  refine SV rfl (fun _ _ _ _ _ S => ?_) ?_
  ·obtain ⟨_, _, _, _, _, _, _, _, _, _, _, _, _, _, _, _, _, _, _, _, _, _, _, _, _, _, _, _, _, _, _, _, _, _, _, _, u36, _, rfl⟩ := lenA38 S.hu
   obtain rfl : u36 = _ := S.q 36 rfl
   rw [pin S.ha]
   go_simp
   exact S.kS 37 _ rfl rfl rfl rfl (S.hI.ph.pure 37 _)
  exact Steps.nil
 ·intro us wE hus dd hD2 hJ
  obtain ⟨p0, p1, p2, p3, p4, p5, p6, p7, p8, p9, p10, p11, p12, p13, p14, p15, p16, p17, p18, p19, p20, p21, p22, p23, p24, p25, p26, p27, p28, p29, p30, p31, p32, p33, p34, p35, p36, p37, rfl⟩ := lenA38 hus
  have hph := hJ.ph
  obtain rfl : p0 = _ := hJ.vq 0 rfl rfl hD2
  obtain rfl : p1 = _ := hJ.vq 1 rfl rfl hD2
  obtain rfl : p2 = _ := hJ.vq 2 rfl rfl hD2
  obtain rfl : p3 = _ := hJ.vq 3 rfl rfl hD2
  obtain rfl : p4 = _ := hJ.vq 4 rfl rfl hD2
  obtain rfl : p5 = _ := hJ.vq 5 rfl rfl hD2
  obtain rfl : p6 = _ := hJ.vq 6 rfl rfl hD2
  obtain rfl : p7 = _ := hJ.vq 7 rfl rfl hD2
  obtain rfl : p8 = _ := hJ.vq 8 rfl rfl hD2
  obtain rfl : p9 = _ := hJ.vq 9 rfl rfl hD2
  obtain rfl : p10 = _ := hJ.vq 10 rfl rfl hD2
  obtain rfl : p11 = _ := hJ.vq 11 rfl rfl hD2
  obtain rfl : p12 = _ := hJ.vq 12 rfl rfl hD2
  obtain rfl : p13 = _ := hJ.vq 13 rfl rfl hD2
  obtain rfl : p14 = _ := hJ.vq 14 rfl rfl hD2
  obtain rfl : p15 = _ := hJ.vq 15 rfl rfl hD2
  obtain rfl : p16 = _ := hJ.vq 16 rfl rfl hD2
  obtain rfl : p17 = _ := hJ.vq 17 rfl rfl hD2
  obtain rfl : p18 = _ := hJ.vq 18 rfl rfl hD2
  obtain rfl : p19 = _ := hJ.vq 19 rfl rfl hD2
  obtain rfl : p20 = _ := hJ.vq 20 rfl rfl hD2
  obtain rfl : p21 = _ := hJ.vq 21 rfl rfl hD2
  obtain rfl : p22 = _ := hJ.vq 22 rfl rfl hD2
  obtain rfl : p23 = _ := hJ.vq 23 rfl rfl hD2
  obtain rfl : p24 = _ := hJ.vq 24 rfl rfl hD2
  obtain rfl : p25 = _ := hJ.vq 25 rfl rfl hD2
  obtain rfl : p26 = _ := hJ.vq 26 rfl rfl hD2
  obtain rfl : p27 = _ := hJ.vq 27 rfl rfl hD2
  obtain rfl : p28 = _ := hJ.vq 28 rfl rfl hD2
  obtain rfl : p29 = _ := hJ.vq 29 rfl rfl hD2
  obtain rfl : p30 = _ := hJ.vq 30 rfl rfl hD2
  obtain rfl : p31 = _ := hJ.vq 31 rfl rfl hD2
  obtain rfl : p32 = _ := hJ.vq 32 rfl rfl hD2
  obtain rfl : p33 = _ := hJ.vq 33 rfl rfl hD2
  obtain rfl : p34 = _ := hJ.vq 34 rfl rfl hD2
  obtain rfl : p35 = _ := hJ.vq 35 rfl rfl hD2
  obtain rfl : p36 = _ := hJ.vq 36 rfl rfl hD2
  obtain rfl : p37 = _ := hJ.vq 37 rfl rfl hD2
  clear hJ
  have HQ := Veil.mk hph.b
  clear hph hD2
  simp only [puts, setAll, List.setIfInBounds_toArray, List.set_cons_zero, List.set_cons_succ]
  go_wp2
  go_ret
  exact ⟨rfl, HBF.out.trans (HQ.out.mono HBF.out.size)⟩
set_option maxHeartbeats 16000000 in
set_option maxRecDepth 100000 in
theorem get_el {W : World} {h B0 m o n i : Nat} {proto : Int} {cs : Bool} {pv fn : Value} {kd : KD} {ev : Value} {xs : Nat -> Vt} (fv : Vt) (h9 : fv.1 = 9) (hm : W.cell? ⟨m, 0, none⟩ = some (.pointer (some ⟨h, 0, none⟩))) (hml : m < W.heap.size) (hb : Box W o 63 (objF 1 proto cs pv ev fn kd)) (he : EL W B0 ev n xs) (hin : i < n) (hn9 : n <= 1000000) (hx : (xs i).1 ≠ 10)
  (HOF : Veil (∀ w', Below W.heap.size W w' -> Calls Tryz.prog 14 #[.pointer (some ⟨h, 0, none⟩), valV fv] w' fun e w9 => e = .returned (.pointer (some ⟨o, 0, none⟩)) /\ Below w'.heap.size w' w9)) :
  Calls Tryz.prog 189 #[.pointer (some ⟨m, 0, none⟩), valV fv, valV (3, (i : Int), ⟨#[]⟩)] W fun e w' => e = .returned (.tuple #[valV (xs i), .int .i64 0]) /\ Below W.heap.size W w' := by
 obtain ⟨g, cap, rfl, hel⟩ : ∃ g cap, ev = .slice (some ⟨g, 0, none⟩) n cap /\ ELg W B0 g n cap xs := by
  rcases he with ⟨-, e2⟩ | ⟨g, cap, e1, he⟩
  ·omega
  ·exact ⟨g, cap, e1, he⟩
 have hHE : ∀ w', Below W.heap.size W w' -> Calls Tryz.prog 83 #[.pointer (some ⟨o, 0, none⟩), valV (3, (i : Int), ⟨#[]⟩)] w' fun e w9 => e = .returned (.bool true) /\ Below w'.heap.size w' w9 := fun w' hw => hasel_yes (hb.below hw) (he.on hw) hin hn9 hx _
 have HHE := Veil.mk hHE
 obtain ⟨c0, c1, c2⟩ := hel.cell i (Nat.lt_of_lt_of_le hin hel.le)
 have hgl := hel.lt
 obtain ⟨x, hxe⟩ : ∃ x, xs i = x := ⟨_, rfl⟩
 rw [hxe] at c0 c1 c2 ⊢
 have HN := Veil.mk (fun w9 => nullish_obj fv h9 w9)
 obtain ⟨vb, hvb⟩ : ∃ vb, W.heap.size = vb := ⟨_, rfl⟩
 obtain ⟨kb, hkb⟩ : ∃ kb, vb + 1 = kb := ⟨_, rfl⟩
 obtain ⟨rb, hrb⟩ : ∃ rb, kb + 1 = rb := ⟨_, rfl⟩
 obtain ⟨W0, hW0⟩ : ∃ W0, (((W.alloc (.cells #[.int .i64 fv.1, .int .i64 fv.2.1, .string fv.2.2] 28)).alloc (.cells #[.int .i64 3, .int .i64 (i : Int), .string ⟨#[]⟩] 28)).alloc (.cells #[.int .i64 0, .int .i64 0, .string ⟨#[]⟩] 28)) = W0 := ⟨_, rfl⟩
 have bb : Below W.heap.size W W0 := by rw [<- hW0]; exact ((((Below.refl _ _).alloc (Nat.le_refl _) _).alloc (by simp only [World.size_alloc]; omega) _).alloc (by simp only [World.size_alloc]; omega) _)
 have xvb : Box W0 vb 28 #[.int .i64 fv.1, .int .i64 fv.2.1, .string fv.2.2] := by have h9 := ((((Box.new W 28 #[.int .i64 fv.1, .int .i64 fv.2.1, .string fv.2.2]).more (.cells #[.int .i64 3, .int .i64 (i : Int), .string ⟨#[]⟩] 28))).more (.cells #[.int .i64 0, .int .i64 0, .string ⟨#[]⟩] 28)); rw [hW0, hvb] at h9; exact h9
 have xkb : Box W0 kb 28 #[.int .i64 3, .int .i64 (i : Int), .string ⟨#[]⟩] := by have h9 := ((Box.new (W.alloc (.cells #[.int .i64 fv.1, .int .i64 fv.2.1, .string fv.2.2] 28)) 28 #[.int .i64 3, .int .i64 (i : Int), .string ⟨#[]⟩]).more (.cells #[.int .i64 0, .int .i64 0, .string ⟨#[]⟩] 28)); rw [hW0, show (W.alloc (.cells #[.int .i64 fv.1, .int .i64 fv.2.1, .string fv.2.2] 28)).heap.size = kb from by simp only [World.size_alloc]; omega] at h9; exact h9
 have xrb : Box W0 rb 28 #[.int .i64 0, .int .i64 0, .string ⟨#[]⟩] := by have h9 := Box.new ((W.alloc (.cells #[.int .i64 fv.1, .int .i64 fv.2.1, .string fv.2.2] 28)).alloc (.cells #[.int .i64 3, .int .i64 (i : Int), .string ⟨#[]⟩] 28)) 28 #[.int .i64 0, .int .i64 0, .string ⟨#[]⟩]; rw [hW0, show ((W.alloc (.cells #[.int .i64 fv.1, .int .i64 fv.2.1, .string fv.2.2] 28)).alloc (.cells #[.int .i64 3, .int .i64 (i : Int), .string ⟨#[]⟩] 28)).heap.size = rb from by simp only [World.size_alloc]; omega] at h9; exact h9
 have HW0 := Veil.mk (And.intro hW0 (And.intro hvb (And.intro hkb (hrb))))
 have HBB := Veil.mk (And.intro bb (And.intro xvb (And.intro xkb (xrb))))
 have HLO : Veil (W.heap.size <= vb /\ W.heap.size <= kb /\ W.heap.size <= rb) := ⟨by omega⟩
 clear hW0 bb hvb xvb hkb xkb hrb xrb
 have HM9 := Veil.mk (And.intro hml hm)
 have HOB0 := Veil.mk (And.intro hb (And.intro hgl (And.intro c0 (And.intro c1 c2))))
 have hi0 : (0 : Int) <= (i : Int) := by omega
 have hin' : (i : Int) < (n : Int) := by omega
 clear hb he hel c0 c1 c2 hgl hxe hm hml hHE hx h9
 go_enter Tryz.func189, Tryz.ntmps189
 go_upto_region 1 with (fail)
 rw [HW0.out.1, HW0.out.2.1, HW0.out.2.2.1, HW0.out.2.2.2]
 have b0 : W0.cell? ⟨vb, 0, none⟩ = some (.int .i64 fv.1) := HBB.out.2.1.at_ 0
 have b1 : W0.cell? ⟨vb, 1, none⟩ = some (.int .i64 fv.2.1) := HBB.out.2.1.at_ 1
 have b2 : W0.cell? ⟨vb, 2, none⟩ = some (.string fv.2.2) := HBB.out.2.1.at_ 2
 go_upto_region 5 with (go_at_call 82; ((with_reducible refine (HN.out _).mono ?_); rintro e w1 ⟨rfl, hb1⟩; have HB1 := Veil.mk hb1; clear hb1))
 clear b0 b1 b2
 obtain ⟨WO, hWD⟩ : ∃ WO, w1.drew = WO := ⟨_, rfl⟩
 have hbD : Below W0.heap.size W0 WO := by rw [<- hWD]; exact HB1.out.drew
 have HBF : Veil (Below W.heap.size W WO) := ⟨HBB.out.1.trans (hbD.mono HBB.out.1.size)⟩
 have HVB := Veil.mk (HBB.out.2.1.below hbD)
 have HKB := Veil.mk (HBB.out.2.2.1.below hbD)
 have HRB := Veil.mk (HBB.out.2.2.2.below hbD)
 have HM0 : Veil (m < WO.heap.size /\ WO.cell? ⟨m, 0, none⟩ = some (.pointer (some ⟨h, 0, none⟩))) := ⟨Nat.lt_of_lt_of_le HM9.out.1 HBF.out.size, (HBF.out.cell (p := ⟨m, 0, none⟩) HM9.out.1).trans HM9.out.2⟩
 have HOF : Veil (∀ w', Below WO.heap.size WO w' -> Calls Tryz.prog 14 #[.pointer (some ⟨h, 0, none⟩), valV fv] w' fun e w9 => e = .returned (.pointer (some ⟨o, 0, none⟩)) /\ Below w'.heap.size w' w9) := ⟨fun w' hb => HOF.out w' (HBF.out.trans (hb.mono HBF.out.size))⟩
 have HWD := Veil.mk hWD
 clear hWD hbD HBB HM9 HB1 HN HW0
 refine wp_region_chain (some (· = .pointer (some ⟨m, 0, none⟩)) :: some (· = .pointer (some ⟨m, 0, none⟩)) :: some (· = .pointer (some ⟨m, 0, none⟩)) :: some (· = .pointer (some ⟨h, 0, none⟩)) :: some (· = valV fv) :: some (· = .pointer (some ⟨o, 0, none⟩)) :: some (· = .pointer (some ⟨o, 0, none⟩)) :: [] : List (Option (Value -> Prop))) (QT WO) [some 20, some 21, some 22, some 23, some 24, some 25, some 8] (curV' _ [some 20, some 21, some 22, some 23, some 24, some 25, some 8]) (by kernel_rfl) rfl rfl (puts_cur _ _) (by rw [HWD.out]; exact QT.start) ?_ (by kernel_rfl) ?_
 ·refine SV rfl (fun _ _ _ _ _ S => ?_) ?_
  ·obtain ⟨_, _, _, _, _, _, _, rfl⟩ := lenA7 S.hu
   rw [pin S.ha]
   go_simp
   exact S.kS 0 _ rfl rfl rfl rfl (S.hI.ph.pure 0 _)
  refine SV rfl (fun _ _ _ _ _ S => ?_) ?_
  ·obtain ⟨u0, _, _, _, _, _, _, rfl⟩ := lenA7 S.hu
   obtain rfl : u0 = _ := S.q 0 rfl
   rw [pin S.ha]
   go_simp
   exact S.kS 1 _ rfl rfl rfl rfl (S.hI.ph.pure 1 _)
  refine SV rfl (fun _ _ _ _ _ S => ?_) ?_
  ·obtain ⟨_, u1, _, _, _, _, _, rfl⟩ := lenA7 S.hu
   obtain rfl : u1 = _ := S.q 1 rfl
   rw [pin S.ha]
   go_simp
   exact S.kS 2 _ rfl rfl rfl rfl (S.hI.ph.pure 2 _)
  refine SV rfl (fun _ _ w' _ _ S => ?_) ?_
  ·obtain ⟨_, _, u2, _, _, _, _, rfl⟩ := lenA7 S.hu
   obtain rfl : u2 = _ := S.q 2 rfl
   have hbl := S.hI.ph.b
   have c0 : w'.cell? ⟨m, 0, none⟩ = some (.pointer (some ⟨h, 0, none⟩)) := (hbl.cell (p := ⟨m, 0, none⟩) HM0.out.1).trans HM0.out.2
   clear hbl
   rw [pin S.ha]
   go_simp
   exact S.kS 3 _ rfl rfl rfl rfl (S.hI.ph.pure 3 _)
  refine SV rfl (fun _ _ w' _ _ S => ?_) ?_
  ·obtain ⟨_, _, _, _, _, _, _, rfl⟩ := lenA7 S.hu
   have hbl := S.hI.ph.b
   have c0 : w'.cell? ⟨vb, 0, none⟩ = some (.int .i64 fv.1) := (HVB.out.below hbl).at_ 0
   have c1 : w'.cell? ⟨vb, 1, none⟩ = some (.int .i64 fv.2.1) := (HVB.out.below hbl).at_ 1
   have c2 : w'.cell? ⟨vb, 2, none⟩ = some (.string fv.2.2) := (HVB.out.below hbl).at_ 2
   clear hbl
   rw [pin S.ha]
   go_simp
   exact S.kS 4 _ rfl rfl rfl rfl (S.hI.ph.pure 4 _)
  refine SV rfl (fun _ _ _ _ _ S => ?_) ?_
  ·obtain ⟨_, _, _, u3, u4, _, _, rfl⟩ := lenA7 S.hu
   obtain rfl : u3 = _ := S.q 3 rfl
   obtain rfl : u4 = _ := S.q 4 rfl
   rw [pin S.ha]
   go_simp
   go_at_call 14
   refine (HOF.out _ S.hI.ph.b).mono ?_
   rintro e9 w9 ⟨rfl, hm9⟩
   go_simp
   exact S.kS 5 _ rfl rfl rfl rfl (S.hI.ph.quiet 5 _ hm9)
  refine SV rfl (fun _ _ _ _ _ S => ?_) ?_
  ·obtain ⟨_, _, _, _, _, u5, _, rfl⟩ := lenA7 S.hu
   obtain rfl : u5 = _ := S.q 5 rfl
   rw [pin S.ha]
   go_simp
   exact S.kS 6 _ rfl rfl rfl rfl (S.hI.ph.pure 6 _)
  exact Steps.nil
 ·intro us wE hus dd hD2 hJ
  obtain ⟨p0, p1, p2, p3, p4, p5, p6, rfl⟩ := lenA7 hus
  have hph := hJ.ph
  obtain rfl : p0 = _ := hJ.vq 0 rfl rfl hD2
  obtain rfl : p1 = _ := hJ.vq 1 rfl rfl hD2
  obtain rfl : p2 = _ := hJ.vq 2 rfl rfl hD2
  obtain rfl : p3 = _ := hJ.vq 3 rfl rfl hD2
  obtain rfl : p4 = _ := hJ.vq 4 rfl rfl hD2
  obtain rfl : p5 = _ := hJ.vq 5 rfl rfl hD2
  obtain rfl : p6 = _ := hJ.vq 6 rfl rfl hD2
  clear hJ
  have HQ := Veil.mk hph.b
  clear hph hD2
  simp only [puts, setAll, List.setIfInBounds_toArray, List.set_cons_zero, List.set_cons_succ]
  have HBE : Veil (Below W.heap.size W wE) := ⟨HBF.out.trans (HQ.out.mono HBF.out.size)⟩
  have k0 : wE.cell? ⟨kb, 0, none⟩ = some (.int .i64 3) := (HKB.out.below HQ.out).at_ 0
  have k1 : wE.cell? ⟨kb, 1, none⟩ = some (.int .i64 (i : Int)) := (HKB.out.below HQ.out).at_ 1
  have k2 : wE.cell? ⟨kb, 2, none⟩ = some (.string ⟨#[]⟩) := (HKB.out.below HQ.out).at_ 2
  go_upto_region 7 with (go_at_call 83; ((with_reducible refine (HHE.out _ HBE.out).mono ?_); rintro e w2 ⟨rfl, hb2⟩; have HB2 := Veil.mk (blw2 HQ.out hb2); clear hb2))
  clear k0 k1 k2 HWD HBE
  obtain ⟨WD, hWD⟩ : ∃ WD, w2.drew = WD := ⟨_, rfl⟩
  have hb3 : Below WO.heap.size WO WD := by rw [<- hWD]; exact HB2.out.drew
  have hbW := HBF.out.trans (hb3.mono HBF.out.size)
  have HR7 : Veil (Box WD o 63 (objF 1 proto cs pv (.slice (some ⟨g, 0, none⟩) n cap) fn kd) /\ Box WD kb 28 #[.int .i64 3, .int .i64 (i : Int), .string ⟨#[]⟩] /\ Box WD rb 28 #[.int .i64 0, .int .i64 0, .string ⟨#[]⟩] /\ WD.cell? ⟨g, i * 3, none⟩ = some (.int .i64 x.1) /\ WD.cell? ⟨g, i * 3 + 1, none⟩ = some (.int .i64 x.2.1) /\ WD.cell? ⟨g, i * 3 + 2, none⟩ = some (.string x.2.2)) := ⟨HOB0.out.1.below hbW, HKB.out.below hb3, HRB.out.below hb3, (hbW.cell (p := ⟨g, i * 3, none⟩) HOB0.out.2.1).trans HOB0.out.2.2.1, (hbW.cell (p := ⟨g, i * 3 + 1, none⟩) HOB0.out.2.1).trans HOB0.out.2.2.2.1, (hbW.cell (p := ⟨g, i * 3 + 2, none⟩) HOB0.out.2.1).trans HOB0.out.2.2.2.2⟩
  have HBF := Veil.mk hbW
  have HWD := Veil.mk hWD
  clear hWD hb3 hbW HB2 HQ HOB0 HKB HRB HVB HOF HHE HM0
  refine wp_region_chain (some (· = .pointer (some ⟨o, 0, none⟩)) :: some (· = .pointer (some ⟨o, 0, none⟩)) :: some (· = .pointer (some ⟨o, 4, none⟩)) :: some (· = .slice (some ⟨g, 0, none⟩) n cap) :: some (· = .pointer (some ⟨kb, 1, none⟩)) :: some (· = .int .i64 (i : Int)) :: some (· = .pointer (some ⟨g, i * 3, none⟩)) :: some (· = valV x) :: none :: some (· = .int .i64 0) :: [] : List (Option (Value -> Prop))) (LPh [8] (SqSt WD [(fun w => w = ((WD.setCell ⟨rb, 0, none⟩ (.int .i64 x.1)).setCell ⟨rb, 1, none⟩ (.int .i64 x.2.1)).setCell ⟨rb, 2, none⟩ (.string x.2.2))])) [some 33, some 34, some 35, some 36, some 37, some 38, some 39, some 40, none, some 7] (curV' _ [some 33, some 34, some 35, some 36, some 37, some 38, some 39, some 40, none, some 7]) (by kernel_rfl) rfl rfl (puts_cur _ _) (LPh.start (show _ = WD from HWD.out)) ?_ (by kernel_rfl) ?_
  ·refine SV rfl (fun _ _ _ _ _ S => ?_) ?_
   ·obtain ⟨_, _, _, _, _, _, _, _, _, _, rfl⟩ := lenA10 S.hu
    rw [pin S.ha]
    go_simp
    exact S.kL 0 rfl rfl rfl rfl
   refine SV rfl (fun _ _ _ _ _ S => ?_) ?_
   ·obtain ⟨u0, _, _, _, _, _, _, _, _, _, rfl⟩ := lenA10 S.hu
    obtain rfl : u0 = _ := S.q 0 rfl
    rw [pin S.ha]
    go_simp
    exact S.kL 1 rfl rfl rfl rfl
   refine SV rfl (fun _ _ _ _ _ S => ?_) ?_
   ·obtain ⟨_, u1, _, _, _, _, _, _, _, _, rfl⟩ := lenA10 S.hu
    obtain rfl : u1 = _ := S.q 1 rfl
    rw [pin S.ha]
    go_simp
    exact S.kL 2 rfl rfl rfl rfl
   refine SV rfl (fun _ _ w' _ _ S => ?_) ?_
   ·obtain ⟨_, _, u2, _, _, _, _, _, _, _, rfl⟩ := lenA10 S.hu
    obtain rfl : u2 = _ := S.q 2 rfl
    have gb := (S.hI.bwd [3] 8 3 (by kernel_rfl) rfl S.h0)
    have hst := S.hI.ph.btw1 0 (.inl rfl) (.inr ⟨8, rfl, gb⟩)
    have hst' : WD = w' := (show w' = WD from hst).symm
    clear hst
    subst hst'
    have c4 : WD.cell? ⟨o, 4, none⟩ = some (.slice (some ⟨g, 0, none⟩) n cap) := HR7.out.1.at_ 4
    clear gb
    rw [pin S.ha]
    go_simp
    exact S.kL 3 rfl rfl rfl rfl
   refine SV rfl (fun _ _ _ _ _ S => ?_) ?_
   ·obtain ⟨_, _, _, _, _, _, _, _, _, _, rfl⟩ := lenA10 S.hu
    rw [pin S.ha]
    go_simp
    exact S.kL 4 rfl rfl rfl rfl
   refine SV rfl (fun _ _ w' _ _ S => ?_) ?_
   ·obtain ⟨_, _, _, _, u4, _, _, _, _, _, rfl⟩ := lenA10 S.hu
    obtain rfl : u4 = _ := S.q 4 rfl
    have gb := (S.hI.bwd [5] 8 5 (by kernel_rfl) rfl S.h0)
    have hst := S.hI.ph.btw1 0 (.inl rfl) (.inr ⟨8, rfl, gb⟩)
    have hst' : WD = w' := (show w' = WD from hst).symm
    clear hst
    subst hst'
    have c1 : WD.cell? ⟨kb, 1, none⟩ = some (.int .i64 (i : Int)) := HR7.out.2.1.at_ 1
    clear gb
    rw [pin S.ha]
    go_simp
    exact S.kL 5 rfl rfl rfl rfl
   refine SV rfl (fun _ _ _ _ _ S => ?_) ?_
   ·obtain ⟨_, _, _, u3, _, u5, _, _, _, _, rfl⟩ := lenA10 S.hu
    obtain rfl : u3 = _ := S.q 3 rfl
    obtain rfl : u5 = _ := S.q 5 rfl
    rw [pin S.ha]
    go_simp
    exact S.kL 6 rfl rfl rfl rfl
   refine SV rfl (fun _ _ w' _ _ S => ?_) ?_
   ·obtain ⟨_, _, _, _, _, _, u6, _, _, _, rfl⟩ := lenA10 S.hu
    obtain rfl : u6 = _ := S.q 6 rfl
    have gb := (S.hI.bwd [7] 8 7 (by kernel_rfl) rfl S.h0)
    have hst := S.hI.ph.btw1 0 (.inl rfl) (.inr ⟨8, rfl, gb⟩)
    have hst' : WD = w' := (show w' = WD from hst).symm
    clear hst
    subst hst'
    obtain ⟨c0, c1, c2⟩ := HR7.out.2.2.2
    clear gb
    rw [pin S.ha]
    go_simp
    exact S.kL 7 rfl rfl rfl rfl
   refine SV rfl (fun _ _ w' _ _ S => ?_) ?_
   ·obtain ⟨_, _, _, _, _, _, _, u7, _, _, rfl⟩ := lenA10 S.hu
    obtain rfl : u7 = _ := S.q 7 rfl
    have gb := S.h0
    have hst := S.hI.ph.btw1 0 (.inl rfl) (.inr ⟨8, rfl, gb⟩)
    have hst' : WD = w' := (show w' = WD from hst).symm
    clear hst
    subst hst'
    have z0 : WD.cell? ⟨rb, 0, none⟩ = some (.int .i64 0) := HR7.out.2.2.1.at_ 0
    have z1 : WD.cell? ⟨rb, 1, none⟩ = some (.int .i64 0) := HR7.out.2.2.1.at_ 1
    have z2 : WD.cell? ⟨rb, 2, none⟩ = some (.string ⟨#[]⟩) := HR7.out.2.2.1.at_ 2
    have q0 := HR7.out.2.2.1.free 0
    have q1 := HR7.out.2.2.1.free 1
    have q2 := HR7.out.2.2.1.free 2
    clear gb
    rw [pin S.ha]
    go_simp
    exact S.kN 8 undef rfl rfl rfl (S.hI.ph.next 0 8 _ rfl S.h0 (.inl rfl) (by decide) (rfl))
   refine SV rfl (fun _ _ _ _ _ S => ?_) ?_
   ·obtain ⟨_, _, _, _, _, _, _, _, _, _, rfl⟩ := lenA10 S.hu
    rw [pin S.ha]
    go_simp
    exact S.kL 9 rfl rfl rfl rfl
   exact Steps.nil
  ·intro us wE hus dd hD2 hJ
   obtain ⟨p0, p1, p2, p3, p4, p5, p6, p7, p8, p9, rfl⟩ := lenA10 hus
   have q1 := hJ.ph.all (fun c hc => hD2 c (by
    have : c = 8 := by simpa using hc
    show c < 10
    omega))
   obtain rfl : p0 = _ := hJ.vq 0 rfl rfl hD2
   obtain rfl : p1 = _ := hJ.vq 1 rfl rfl hD2
   obtain rfl : p2 = _ := hJ.vq 2 rfl rfl hD2
   obtain rfl : p3 = _ := hJ.vq 3 rfl rfl hD2
   obtain rfl : p4 = _ := hJ.vq 4 rfl rfl hD2
   obtain rfl : p5 = _ := hJ.vq 5 rfl rfl hD2
   obtain rfl : p6 = _ := hJ.vq 6 rfl rfl hD2
   obtain rfl : p7 = _ := hJ.vq 7 rfl rfl hD2
   obtain rfl : p9 = _ := hJ.vq 9 rfl rfl hD2
   clear hJ hD2
   have HQ := Veil.mk (show wE = ((WD.setCell ⟨rb, 0, none⟩ (.int .i64 x.1)).setCell ⟨rb, 1, none⟩ (.int .i64 x.2.1)).setCell ⟨rb, 2, none⟩ (.string x.2.2) from q1)
   clear q1
   simp only [puts, setAll, List.setIfInBounds_toArray, List.set_cons_zero, List.set_cons_succ]
   have hr6 := (((HR7.out.2.2.1).put 0 (.int .i64 x.1)).put 1 (.int .i64 x.2.1)).put 2 (.string x.2.2)
   rw [<- HQ.out] at hr6
   have hrb : W.heap.size <= rb := HLO.out.2.2
   have hfin : Below W.heap.size W wE := by rw [HQ.out]; exact ((HBF.out.setCell (p := ⟨rb, 0, none⟩) hrb _).setCell (p := ⟨rb, 1, none⟩) hrb _).setCell (p := ⟨rb, 2, none⟩) hrb _
   have HZ := Veil.mk (And.intro hr6 hfin)
   clear hr6 hfin hrb HQ HR7
   go_wp2
   have y0 := HZ.out.1.at_ 0
   have y1 := HZ.out.1.at_ 1
   have y2 := HZ.out.1.at_ 2
   exact bodyPost_ret (v := .tuple #[valV x, .int .i64 0]) (by simp [results, Tryz.results189, go_sem, y0, y1, y2]) rfl ⟨rfl, HZ.out.2⟩
theorem SqSt.box2 {WD w : World} {P1 P2 : World -> Prop} {s : Nat} {f : Nat -> Value} {g : Nat} {cs : Array Value} (h : SqSt WD [P1, P2] s f w) (hs : s <= 1) (h0 : Box WD g VTy cs) (h1 : ∀ w, P1 w -> Box w g VTy cs) : Box w g VTy cs := by
 match s, hs, h with
 | 0, _, h => rw [show w = WD from h]; exact h0
 | 1, _, h => exact h1 w h
section
variable {W : World} {h A m : Nat} {f : MF} {ts : List TO}
set_option maxHeartbeats 16000000 in
set_option maxRecDepth 100000 in
theorem MP.adv_arr (H : MP W h A m f ts) {iw ia o g b i n : Nat} {kd : Int} {ev : Value} {xs : Nat -> Vt} (hp : ts[iw]? = some (TO.wkr o kd (.slice (some ⟨g, 0, none⟩) 1 1) (i : Int))) (hpa : ts[ia]? = some (TO.arr b 3 ev)) (hne : iw ≠ ia) (hg : Box W g VTy #[.int .i64 9, .int .i64 ((ia : Int) + 1), .string ⟨#[]⟩]) (hel : EL W A ev n xs) (_hn9 : n <= 1000000) (hi9 : i <= 1000000) (hin : i < n) (hx : (xs i).1 ≠ 10) :
  Calls Tryz.prog 365 #[.pointer (some ⟨m, 0, none⟩), .pointer (some ⟨o, 0, none⟩)] W fun e w' => e = .returned (.tuple #[valV (3, (i : Int), ⟨#[]⟩), valV (xs i), .int .i64 0]) /\ MP w' h A m f (ts.set iw (TO.wkr o kd (.slice (some ⟨g, 0, none⟩) 1 1) ((i : Int) + 1))) /\ Bk A W w' := by
 have hA := Nat.le_of_lt H.mm.alt
 have hob : Box W o 63 (objF 5 12 false (.pointer none) (.slice none 0 0) .nilIface ⟨kd, .slice (some ⟨g, 0, none⟩) 1 1, (i : Int), false⟩) := H.mem_b (List.mem_of_getElem? hp) rfl
 obtain ⟨fv, hfv⟩ : ∃ fv : Vt, ((9, (ia : Int) + 1, ⟨#[]⟩) : Vt) = fv := ⟨_, rfl⟩
 have hg2 : Box W g VTy #[.int .i64 fv.1, .int .i64 fv.2.1, .string fv.2.2] := by rw [<- hfv]; exact hg
 have HOF : Veil (∀ w', Below W.heap.size W w' -> Calls Tryz.prog 14 #[.pointer (some ⟨h, 0, none⟩), valV fv] w' fun e w9 => e = .returned (.pointer (some ⟨b, 0, none⟩)) /\ Below w'.heap.size w' w9) := ⟨fun w' hb => by rw [<- hfv]; exact (H.on hb).of_at hpa rfl _⟩
 have HFV : Veil (((9, (ia : Int) + 1, ⟨#[]⟩) : Vt) = fv) := ⟨hfv⟩
 have H9 : Veil (fv.1 = 9) := ⟨by rw [<- hfv]⟩
 obtain ⟨ao, cap, rfl⟩ : ∃ ao cap, ev = .slice ao n cap := by
  rcases hel with ⟨e1, e2⟩ | ⟨g2, cap, e1, _⟩
  ·exact ⟨none, 0, by rw [e1, e2]⟩
  ·exact ⟨_, _, e1⟩
 have hbb : Box W b 63 (objF 1 3 false (.pointer none) (.slice ao n cap) .nilIface kd0) := H.mem_b (List.mem_of_getElem? hpa) rfl
 obtain ⟨ka, hka⟩ : ∃ ka, W.heap.size = ka := ⟨_, rfl⟩
 obtain ⟨kb, hkb⟩ : ∃ kb, ka + 1 = kb := ⟨_, rfl⟩
 obtain ⟨W0, hW0⟩ : ∃ W0, ((W.alloc (.cells #[.int .i64 0, .int .i64 0, .string ⟨#[]⟩] 28)).alloc (.cells #[.int .i64 0, .int .i64 0, .string ⟨#[]⟩] 28)) = W0 := ⟨_, rfl⟩
 have bb : Below W.heap.size W W0 := by rw [<- hW0]; exact (((Below.refl _ _).alloc (Nat.le_refl _) _).alloc (by simp only [World.size_alloc]; omega) _)
 have xka : Box W0 ka 28 #[.int .i64 0, .int .i64 0, .string ⟨#[]⟩] := by have h9 := ((Box.new W 28 #[.int .i64 0, .int .i64 0, .string ⟨#[]⟩]).more (.cells #[.int .i64 0, .int .i64 0, .string ⟨#[]⟩] 28)); rw [hW0, hka] at h9; exact h9
 have xkb : Box W0 kb 28 #[.int .i64 0, .int .i64 0, .string ⟨#[]⟩] := by have h9 := Box.new (W.alloc (.cells #[.int .i64 0, .int .i64 0, .string ⟨#[]⟩] 28)) 28 #[.int .i64 0, .int .i64 0, .string ⟨#[]⟩]; rw [hW0, show (W.alloc (.cells #[.int .i64 0, .int .i64 0, .string ⟨#[]⟩] 28)).heap.size = kb from by simp only [World.size_alloc]; omega] at h9; exact h9
 have HW0 := Veil.mk (And.intro hW0 (And.intro hka (hkb)))
 have HBB := Veil.mk (And.intro bb (And.intro xka (xkb)))
 have HLO : Veil (W.heap.size <= ka /\ W.heap.size <= kb) := ⟨by omega⟩
 clear hW0 bb hka xka hkb xkb
 have HP0 := Veil.mk (H.on HBB.out.1)
 have HPL := Veil.mk (And.intro hp (And.intro hA (And.intro hpa hne)))
 have HEL := Veil.mk (hel.on HBB.out.1)
 have ho0 := hob.below HBB.out.1
 have hg0 := hg2.below HBB.out.1
 have hb0' := hbb.below HBB.out.1
 have HG0 := Veil.mk (And.intro ho0 (And.intro hg0 hb0'))
 have hi0 : (0 : Int) <= (i : Int) := by omega
 obtain ⟨x, hxe⟩ : ∃ x, xs i = x := ⟨_, rfl⟩
 rw [hxe] at hx ⊢
 have HXE := Veil.mk hxe
 clear hxe
 have hi1 : (i : Int) < (n : Int) := by omega
 have hwr : IntKind.i64.wrap ((i : Int) + 1) = (i : Int) + 1 := IntWalk.i64_in _ (by omega)
 have d5 : W0.cell? ⟨o, 5, none⟩ = some (.slice (some ⟨g, 0, none⟩) 1 1) := ho0.at_ 5
 have d7 : W0.cell? ⟨o, 7, none⟩ = some (.pointer none) := ho0.at_ 7
 have c0 : W0.cell? ⟨g, 0, none⟩ = some (.int .i64 fv.1) := hg0.at_ 0
 have c1 : W0.cell? ⟨g, 1, none⟩ = some (.int .i64 fv.2.1) := hg0.at_ 1
 have c2 : W0.cell? ⟨g, 2, none⟩ = some (.string fv.2.2) := hg0.at_ 2
 clear H hp hpa hg hg2 hel hA hob hbb ho0 hg0 hb0' hfv
 go_enter Tryz.func365, Tryz.ntmps365
 go_upto_region 1 with (fail)
 rw [HW0.out.1, HW0.out.2.1, HW0.out.2.2]
 go_upto_region 4 with (fail)
 obtain ⟨vb, hvb⟩ : ∃ vb, W0.heap.size = vb := ⟨_, rfl⟩
 obtain ⟨W2, hW2⟩ : ∃ W2, W0.alloc (.cells #[.int .i64 fv.1, .int .i64 fv.2.1, .string fv.2.2] 28) = W2 := ⟨_, rfl⟩
 have bx := Box.new W0 28 #[.int .i64 fv.1, .int .i64 fv.2.1, .string fv.2.2]
 have bl : Below W0.heap.size W0 (W0.alloc (.cells #[.int .i64 fv.1, .int .i64 fv.2.1, .string fv.2.2] 28)) := (Below.refl _ _).alloc (Nat.le_refl _) _
 rw [hW2] at bx bl ⊢
 rw [hvb] at bx ⊢
 have HB2 := Veil.mk (And.intro bl bx)
 clear c0 c1 c2 d5 d7 hvb hW2 bl bx
 have d7 : W2.cell? ⟨o, 7, none⟩ = some (.pointer none) := (HG0.out.1.below HB2.out.1).at_ 7
 go_upto_region 9 with (fail)
 obtain ⟨WD, hWD⟩ : ∃ WD, W2.drew = WD := ⟨_, rfl⟩
 have hdr : Below W2.heap.size W2 WD := by rw [<- hWD]; exact (Below.refl _ _).drew
 have hbD := blw2 HB2.out.1 hdr
 have HBX := Veil.mk (And.intro (HBB.out.2.1.below hbD) (And.intro (HBB.out.2.2.below hbD) (And.intro (HB2.out.2.below hdr) (And.intro (HG0.out.1.below hbD) (And.intro (HG0.out.2.2.below hbD) (show ∀ w', Below WD.heap.size WD w' -> w'.cell? ⟨m, 0, none⟩ = some (.pointer (some ⟨h, 0, none⟩)) from fun w' hb => ((HP0.out.on hbD).on hb).mm.mb.at_ 0))))))
 have HBF := Veil.mk hbD
 have HWD := Veil.mk hWD
 clear hWD hdr hbD d7 HB2 HG0
 refine wp_region_chain (some (· = .pointer (some ⟨m, 0, none⟩)) :: some (· = .pointer (some ⟨m, 0, none⟩)) :: some (· = .pointer (some ⟨m, 0, none⟩)) :: some (· = .pointer (some ⟨h, 0, none⟩)) :: some (· = valV fv) :: some (· = .pointer (some ⟨b, 0, none⟩)) :: some (· = .pointer (some ⟨b, 0, none⟩)) :: [] : List (Option (Value -> Prop))) (QT WD) [some 56, some 57, some 58, some 59, some 60, some 61, some 12] (curV' _ [some 56, some 57, some 58, some 59, some 60, some 61, some 12]) (by kernel_rfl) rfl rfl (puts_cur _ _) (by rw [HWD.out]; exact QT.start) ?_ (by kernel_rfl) ?_
 ·refine SV rfl (fun _ _ _ _ _ S => ?_) ?_
  ·obtain ⟨_, _, _, _, _, _, _, rfl⟩ := lenA7 S.hu
   rw [pin S.ha]
   go_simp
   exact S.kS 0 _ rfl rfl rfl rfl (S.hI.ph.pure 0 _)
  refine SV rfl (fun _ _ _ _ _ S => ?_) ?_
  ·obtain ⟨u0, _, _, _, _, _, _, rfl⟩ := lenA7 S.hu
   obtain rfl : u0 = _ := S.q 0 rfl
   rw [pin S.ha]
   go_simp
   exact S.kS 1 _ rfl rfl rfl rfl (S.hI.ph.pure 1 _)
  refine SV rfl (fun _ _ _ _ _ S => ?_) ?_
  ·obtain ⟨_, u1, _, _, _, _, _, rfl⟩ := lenA7 S.hu
   obtain rfl : u1 = _ := S.q 1 rfl
   rw [pin S.ha]
   go_simp
   exact S.kS 2 _ rfl rfl rfl rfl (S.hI.ph.pure 2 _)
  refine SV rfl (fun _ _ w' _ _ S => ?_) ?_
  ·obtain ⟨_, _, u2, _, _, _, _, rfl⟩ := lenA7 S.hu
   obtain rfl : u2 = _ := S.q 2 rfl
   have hbl := S.hI.ph.b
   have c0 : w'.cell? ⟨m, 0, none⟩ = some (.pointer (some ⟨h, 0, none⟩)) := HBX.out.2.2.2.2.2 w' hbl
   clear hbl
   rw [pin S.ha]
   go_simp
   exact S.kS 3 _ rfl rfl rfl rfl (S.hI.ph.pure 3 _)
  refine SV rfl (fun _ _ w' _ _ S => ?_) ?_
  ·obtain ⟨_, _, _, _, _, _, _, rfl⟩ := lenA7 S.hu
   have hbl := S.hI.ph.b
   have c0 : w'.cell? ⟨vb, 0, none⟩ = some (.int .i64 fv.1) := (HBX.out.2.2.1.below hbl).at_ 0
   have c1 : w'.cell? ⟨vb, 1, none⟩ = some (.int .i64 fv.2.1) := (HBX.out.2.2.1.below hbl).at_ 1
   have c2 : w'.cell? ⟨vb, 2, none⟩ = some (.string fv.2.2) := (HBX.out.2.2.1.below hbl).at_ 2
   clear hbl
   rw [pin S.ha]
   go_simp
   exact S.kS 4 _ rfl rfl rfl rfl (S.hI.ph.pure 4 _)
  refine SV rfl (fun _ _ _ _ _ S => ?_) ?_
  ·obtain ⟨_, _, _, u3, u4, _, _, rfl⟩ := lenA7 S.hu
   obtain rfl : u3 = _ := S.q 3 rfl
   obtain rfl : u4 = _ := S.q 4 rfl
   rw [pin S.ha]
   go_simp
   go_at_call 14
   refine (HOF.out _ (HBB.out.1.trans ((blw2 HBF.out S.hI.ph.b).mono HBB.out.1.size))).mono ?_
   rintro e9 w9 ⟨rfl, hm9⟩
   go_simp
   exact S.kS 5 _ rfl rfl rfl rfl (S.hI.ph.quiet 5 _ hm9)
  refine SV rfl (fun _ _ _ _ _ S => ?_) ?_
  ·obtain ⟨_, _, _, _, _, u5, _, rfl⟩ := lenA7 S.hu
   obtain rfl : u5 = _ := S.q 5 rfl
   rw [pin S.ha]
   go_simp
   exact S.kS 6 _ rfl rfl rfl rfl (S.hI.ph.pure 6 _)
  exact Steps.nil
 ·intro us wE hus dd hD2 hJ
  obtain ⟨p0, p1, p2, p3, p4, p5, p6, rfl⟩ := lenA7 hus
  have hph := hJ.ph
  obtain rfl : p0 = _ := hJ.vq 0 rfl rfl hD2
  obtain rfl : p1 = _ := hJ.vq 1 rfl rfl hD2
  obtain rfl : p2 = _ := hJ.vq 2 rfl rfl hD2
  obtain rfl : p3 = _ := hJ.vq 3 rfl rfl hD2
  obtain rfl : p4 = _ := hJ.vq 4 rfl rfl hD2
  obtain rfl : p5 = _ := hJ.vq 5 rfl rfl hD2
  obtain rfl : p6 = _ := hJ.vq 6 rfl rfl hD2
  clear hJ
  have HQ := Veil.mk hph.b
  clear hph hD2
  simp only [puts, setAll, List.setIfInBounds_toArray, List.set_cons_zero, List.set_cons_succ]
  go_upto_region 10 with (fail)
  obtain ⟨WD, hWD⟩ : ∃ WD, wE.drew = WD := ⟨_, rfl⟩
  have hdr : Below wE.heap.size wE WD := by rw [<- hWD]; exact (Below.refl _ _).drew
  have hb9 := blw2 (HQ.out) hdr
  have HBX := Veil.mk (And.intro (HBX.out.1.below hb9) (And.intro (HBX.out.2.1.below hb9) (And.intro (HBX.out.2.2.1.below hb9) (And.intro (HBX.out.2.2.2.1.below hb9) (And.intro (HBX.out.2.2.2.2.1.below hb9) (show ∀ w', Below WD.heap.size WD w' -> w'.cell? ⟨m, 0, none⟩ = some (.pointer (some ⟨h, 0, none⟩)) from fun w' hb => HBX.out.2.2.2.2.2 w' (hb9.trans (hb.mono hb9.size))))))))
  have HBF := Veil.mk (blw2 HBF.out hb9)
  have HWD := Veil.mk hWD
  clear hWD hdr hb9
  clear HQ
  refine wp_region_chain (some (· = .pointer (some ⟨b, 0, none⟩)) :: some (· = (.bool true)) :: some (· = (.bool true)) :: some (· = .pointer (some ⟨b, 0, none⟩)) :: some (· = .pointer (some ⟨b, 0, none⟩)) :: some (· = .pointer (some ⟨b, 0, none⟩)) :: some (· = .int .i64 1) :: some (· = (.bool true)) :: some (· = (.bool true)) :: some (· = (.bool true)) :: some (· = .pointer (some ⟨o, 0, none⟩)) :: some (· = .pointer (some ⟨o, 0, none⟩)) :: some (· = .pointer (some ⟨o, 14, none⟩)) :: some (· = .int .i64 (i : Int)) :: some (· = .pointer (some ⟨b, 0, none⟩)) :: some (· = .pointer (some ⟨b, 0, none⟩)) :: some (· = .pointer (some ⟨b, 4, none⟩)) :: some (· = .slice ao n cap) :: some (· = .int .i64 (n : Int)) :: some (· = (.bool true)) :: some (· = (.bool true)) :: [] : List (Option (Value -> Prop))) (QT WD) [some 62, some 63, some 64, some 65, some 66, some 67, some 68, some 69, some 70, some 71, some 72, some 73, some 74, some 75, some 76, some 77, some 78, some 79, some 80, some 81, some 82] (curV' _ [some 62, some 63, some 64, some 65, some 66, some 67, some 68, some 69, some 70, some 71, some 72, some 73, some 74, some 75, some 76, some 77, some 78, some 79, some 80, some 81, some 82]) (by kernel_rfl) rfl rfl (puts_cur _ _) (by rw [HWD.out]; exact QT.start) ?_ (by kernel_rfl) ?_
  ·refine SV rfl (fun _ _ _ _ _ S => ?_) ?_
   ·obtain ⟨_, _, _, _, _, _, _, _, _, _, _, _, _, _, _, _, _, _, _, _, _, rfl⟩ := lenA21 S.hu
    rw [pin S.ha]
    go_simp
    exact S.kS 0 _ rfl rfl rfl rfl (S.hI.ph.pure 0 _)
   refine SV rfl (fun _ _ _ _ _ S => ?_) ?_
   ·obtain ⟨u0, _, _, _, _, _, _, _, _, _, _, _, _, _, _, _, _, _, _, _, _, rfl⟩ := lenA21 S.hu
    obtain rfl : u0 = _ := S.q 0 rfl
    rw [pin S.ha]
    go_simp
    exact S.kS 1 _ rfl rfl rfl rfl (S.hI.ph.pure 1 _)
   refine SV rfl (fun _ _ _ _ _ S => ?_) ?_
   ·obtain ⟨_, u1, _, _, _, _, _, _, _, _, _, _, _, _, _, _, _, _, _, _, _, rfl⟩ := lenA21 S.hu
    obtain rfl : u1 = _ := S.q 1 rfl
    rw [pin S.ha]
    go_simp
    exact S.kS 2 _ rfl rfl rfl rfl (S.hI.ph.pure 2 _)
   refine SW (fun _ _ _ _ _ S => ?_) ?_
   ·obtain ⟨_, _, u2, _, _, _, _, _, _, _, _, _, _, _, _, _, _, _, _, _, _, rfl⟩ := lenA21 S.hu
    obtain rfl : u2 = _ := S.q 2 rfl
    rw [if_pos (S.wt 2 64)]
    rw [pin S.ha]
    go_simp
    exact S.kS 3 _ rfl rfl rfl rfl (S.hI.ph.pure 3 _)
   refine SW (fun _ _ _ _ _ S => ?_) ?_
   ·obtain ⟨_, _, u2, u3, _, _, _, _, _, _, _, _, _, _, _, _, _, _, _, _, _, rfl⟩ := lenA21 S.hu
    obtain rfl : u3 = _ := S.q 3 rfl
    obtain rfl : u2 = _ := S.q 2 rfl
    rw [if_pos (S.wt 2 64)]
    rw [pin S.ha]
    go_simp
    exact S.kS 4 _ rfl rfl rfl rfl (S.hI.ph.pure 4 _)
   refine SW (fun _ _ _ _ _ S => ?_) ?_
   ·obtain ⟨_, _, u2, _, u4, _, _, _, _, _, _, _, _, _, _, _, _, _, _, _, _, rfl⟩ := lenA21 S.hu
    obtain rfl : u4 = _ := S.q 4 rfl
    obtain rfl : u2 = _ := S.q 2 rfl
    rw [if_pos (S.wt 2 64)]
    rw [pin S.ha]
    go_simp
    exact S.kS 5 _ rfl rfl rfl rfl (S.hI.ph.pure 5 _)
   refine SW (fun _ _ w' _ _ S => ?_) ?_
   ·obtain ⟨_, _, u2, _, _, u5, _, _, _, _, _, _, _, _, _, _, _, _, _, _, _, rfl⟩ := lenA21 S.hu
    obtain rfl : u5 = _ := S.q 5 rfl
    obtain rfl : u2 = _ := S.q 2 rfl
    rw [if_pos (S.wt 2 64)]
    have hbl := S.hI.ph.b
    have c0 : w'.cell? ⟨b, 0, none⟩ = some (.int .i64 1) := (HBX.out.2.2.2.2.1.below hbl).at_ 0
    clear hbl
    rw [pin S.ha]
    go_simp
    exact S.kS 6 _ rfl rfl rfl rfl (S.hI.ph.pure 6 _)
   refine SW (fun _ _ _ _ _ S => ?_) ?_
   ·obtain ⟨_, _, u2, _, _, _, u6, _, _, _, _, _, _, _, _, _, _, _, _, _, _, rfl⟩ := lenA21 S.hu
    obtain rfl : u6 = _ := S.q 6 rfl
    obtain rfl : u2 = _ := S.q 2 rfl
    rw [if_pos (S.wt 2 64)]
    rw [pin S.ha]
    go_simp
    exact S.kS 7 _ rfl rfl rfl rfl (S.hI.ph.pure 7 _)
   refine SV rfl (fun _ _ _ _ _ S => ?_) ?_
   ·obtain ⟨_, _, u2, _, _, _, _, u7, _, _, _, _, _, _, _, _, _, _, _, _, _, rfl⟩ := lenA21 S.hu
    obtain rfl : u2 = _ := S.q 2 rfl
    obtain rfl : u7 = _ := S.q 7 rfl
    rw [pin S.ha]
    go_simp
    exact S.kS 8 _ rfl rfl rfl rfl (S.hI.ph.pure 8 _)
   refine SV rfl (fun _ _ _ _ _ S => ?_) ?_
   ·obtain ⟨_, _, _, _, _, _, _, _, u8, _, _, _, _, _, _, _, _, _, _, _, _, rfl⟩ := lenA21 S.hu
    obtain rfl : u8 = _ := S.q 8 rfl
    rw [pin S.ha]
    go_simp
    exact S.kS 9 _ rfl rfl rfl rfl (S.hI.ph.pure 9 _)
   refine SW (fun _ _ _ _ _ S => ?_) ?_
   ·obtain ⟨_, _, _, _, _, _, _, _, _, u9, _, _, _, _, _, _, _, _, _, _, _, rfl⟩ := lenA21 S.hu
    obtain rfl : u9 = _ := S.q 9 rfl
    rw [if_pos (S.wt 9 71)]
    rw [pin S.ha]
    go_simp
    exact S.kS 10 _ rfl rfl rfl rfl (S.hI.ph.pure 10 _)
   refine SW (fun _ _ _ _ _ S => ?_) ?_
   ·obtain ⟨_, _, _, _, _, _, _, _, _, u9, u10, _, _, _, _, _, _, _, _, _, _, rfl⟩ := lenA21 S.hu
    obtain rfl : u10 = _ := S.q 10 rfl
    obtain rfl : u9 = _ := S.q 9 rfl
    rw [if_pos (S.wt 9 71)]
    rw [pin S.ha]
    go_simp
    exact S.kS 11 _ rfl rfl rfl rfl (S.hI.ph.pure 11 _)
   refine SW (fun _ _ _ _ _ S => ?_) ?_
   ·obtain ⟨_, _, _, _, _, _, _, _, _, u9, _, u11, _, _, _, _, _, _, _, _, _, rfl⟩ := lenA21 S.hu
    obtain rfl : u11 = _ := S.q 11 rfl
    obtain rfl : u9 = _ := S.q 9 rfl
    rw [if_pos (S.wt 9 71)]
    rw [pin S.ha]
    go_simp
    exact S.kS 12 _ rfl rfl rfl rfl (S.hI.ph.pure 12 _)
   refine SW (fun _ _ w' _ _ S => ?_) ?_
   ·obtain ⟨_, _, _, _, _, _, _, _, _, u9, _, _, u12, _, _, _, _, _, _, _, _, rfl⟩ := lenA21 S.hu
    obtain rfl : u12 = _ := S.q 12 rfl
    obtain rfl : u9 = _ := S.q 9 rfl
    rw [if_pos (S.wt 9 71)]
    have hbl := S.hI.ph.b
    have c14 : w'.cell? ⟨o, 14, none⟩ = some (.int .i64 (i : Int)) := (HBX.out.2.2.2.1.below hbl).at_ 14
    clear hbl
    rw [pin S.ha]
    go_simp
    exact S.kS 13 _ rfl rfl rfl rfl (S.hI.ph.pure 13 _)
   refine SW (fun _ _ _ _ _ S => ?_) ?_
   ·obtain ⟨_, _, _, _, _, _, _, _, _, u9, _, _, _, _, _, _, _, _, _, _, _, rfl⟩ := lenA21 S.hu
    obtain rfl : u9 = _ := S.q 9 rfl
    rw [if_pos (S.wt 9 71)]
    rw [pin S.ha]
    go_simp
    exact S.kS 14 _ rfl rfl rfl rfl (S.hI.ph.pure 14 _)
   refine SW (fun _ _ _ _ _ S => ?_) ?_
   ·obtain ⟨_, _, _, _, _, _, _, _, _, u9, _, _, _, _, u14, _, _, _, _, _, _, rfl⟩ := lenA21 S.hu
    obtain rfl : u14 = _ := S.q 14 rfl
    obtain rfl : u9 = _ := S.q 9 rfl
    rw [if_pos (S.wt 9 71)]
    rw [pin S.ha]
    go_simp
    exact S.kS 15 _ rfl rfl rfl rfl (S.hI.ph.pure 15 _)
   refine SW (fun _ _ _ _ _ S => ?_) ?_
   ·obtain ⟨_, _, _, _, _, _, _, _, _, u9, _, _, _, _, _, u15, _, _, _, _, _, rfl⟩ := lenA21 S.hu
    obtain rfl : u15 = _ := S.q 15 rfl
    obtain rfl : u9 = _ := S.q 9 rfl
    rw [if_pos (S.wt 9 71)]
    rw [pin S.ha]
    go_simp
    exact S.kS 16 _ rfl rfl rfl rfl (S.hI.ph.pure 16 _)
   refine SW (fun _ _ w' _ _ S => ?_) ?_
   ·obtain ⟨_, _, _, _, _, _, _, _, _, u9, _, _, _, _, _, _, u16, _, _, _, _, rfl⟩ := lenA21 S.hu
    obtain rfl : u16 = _ := S.q 16 rfl
    obtain rfl : u9 = _ := S.q 9 rfl
    rw [if_pos (S.wt 9 71)]
    have hbl := S.hI.ph.b
    have c4 : w'.cell? ⟨b, 4, none⟩ = some (.slice ao n cap) := (HBX.out.2.2.2.2.1.below hbl).at_ 4
    clear hbl
    rw [pin S.ha]
    go_simp
    exact S.kS 17 _ rfl rfl rfl rfl (S.hI.ph.pure 17 _)
   refine SW (fun _ _ _ _ _ S => ?_) ?_
   ·obtain ⟨_, _, _, _, _, _, _, _, _, u9, _, _, _, _, _, _, _, u17, _, _, _, rfl⟩ := lenA21 S.hu
    obtain rfl : u17 = _ := S.q 17 rfl
    obtain rfl : u9 = _ := S.q 9 rfl
    rw [if_pos (S.wt 9 71)]
    rw [pin S.ha]
    go_simp
    exact S.kS 18 _ rfl rfl rfl rfl (S.hI.ph.pure 18 _)
   refine SW (fun _ _ _ _ _ S => ?_) ?_
   ·obtain ⟨_, _, _, _, _, _, _, _, _, u9, _, _, _, u13, _, _, _, _, u18, _, _, rfl⟩ := lenA21 S.hu
    obtain rfl : u13 = _ := S.q 13 rfl
    obtain rfl : u18 = _ := S.q 18 rfl
    obtain rfl : u9 = _ := S.q 9 rfl
    rw [if_pos (S.wt 9 71)]
    rw [pin S.ha]
    go_simp
    exact S.kS 19 _ rfl rfl rfl rfl (S.hI.ph.pure 19 _)
   refine SV rfl (fun _ _ _ _ _ S => ?_) ?_
   ·obtain ⟨_, _, _, _, _, _, _, _, _, u9, _, _, _, _, _, _, _, _, _, u19, _, rfl⟩ := lenA21 S.hu
    obtain rfl : u9 = _ := S.q 9 rfl
    obtain rfl : u19 = _ := S.q 19 rfl
    rw [pin S.ha]
    go_simp
    exact S.kS 20 _ rfl rfl rfl rfl (S.hI.ph.pure 20 _)
   exact Steps.nil
  ·intro us wE hus dd hD2 hJ
   obtain ⟨p0, p1, p2, p3, p4, p5, p6, p7, p8, p9, p10, p11, p12, p13, p14, p15, p16, p17, p18, p19, p20, rfl⟩ := lenA21 hus
   have hph := hJ.ph
   obtain rfl : p0 = _ := hJ.vq 0 rfl rfl hD2
   obtain rfl : p1 = _ := hJ.vq 1 rfl rfl hD2
   obtain rfl : p2 = _ := hJ.vq 2 rfl rfl hD2
   obtain rfl : p3 = _ := hJ.vq 3 rfl rfl hD2
   obtain rfl : p4 = _ := hJ.vq 4 rfl rfl hD2
   obtain rfl : p5 = _ := hJ.vq 5 rfl rfl hD2
   obtain rfl : p6 = _ := hJ.vq 6 rfl rfl hD2
   obtain rfl : p7 = _ := hJ.vq 7 rfl rfl hD2
   obtain rfl : p8 = _ := hJ.vq 8 rfl rfl hD2
   obtain rfl : p9 = _ := hJ.vq 9 rfl rfl hD2
   obtain rfl : p10 = _ := hJ.vq 10 rfl rfl hD2
   obtain rfl : p11 = _ := hJ.vq 11 rfl rfl hD2
   obtain rfl : p12 = _ := hJ.vq 12 rfl rfl hD2
   obtain rfl : p13 = _ := hJ.vq 13 rfl rfl hD2
   obtain rfl : p14 = _ := hJ.vq 14 rfl rfl hD2
   obtain rfl : p15 = _ := hJ.vq 15 rfl rfl hD2
   obtain rfl : p16 = _ := hJ.vq 16 rfl rfl hD2
   obtain rfl : p17 = _ := hJ.vq 17 rfl rfl hD2
   obtain rfl : p18 = _ := hJ.vq 18 rfl rfl hD2
   obtain rfl : p19 = _ := hJ.vq 19 rfl rfl hD2
   obtain rfl : p20 = _ := hJ.vq 20 rfl rfl hD2
   clear hJ
   have HQ := Veil.mk hph.b
   clear hph hD2
   simp only [puts, setAll, List.setIfInBounds_toArray, List.set_cons_zero, List.set_cons_succ]
   go_upto_region 11 with (fail)
   have HOE := Veil.mk (HBX.out.2.2.2.1.below HQ.out)
   have e14 : wE.cell? ⟨o, 14, none⟩ = some (.int .i64 (i : Int)) := HOE.out.at_ 14
   go_upto_region 12 with (go_at_call 362; ((with_reducible refine (whole_any _ _).mono ?_); rintro e w5 ⟨rfl, hb5⟩; have HB5 := Veil.mk (blw2 HQ.out hb5); clear hb5))
   obtain ⟨eb, heb⟩ : ∃ eb, w5.heap.size = eb := ⟨_, rfl⟩
   obtain ⟨w6, hw6⟩ : ∃ w6, w5.alloc (.cells #[.int .i64 3, .int .i64 (i : Int), .string ⟨#[]⟩] 28) = w6 := ⟨_, rfl⟩
   have bx := Box.new w5 28 #[.int .i64 3, .int .i64 (i : Int), .string ⟨#[]⟩]
   have bl : Below w5.heap.size w5 (w5.alloc (.cells #[.int .i64 3, .int .i64 (i : Int), .string ⟨#[]⟩] 28)) := (Below.refl _ _).alloc (Nat.le_refl _) _
   rw [hw6] at bx bl ⊢
   rw [heb] at bx ⊢
   have hb6 := blw2 HB5.out bl
   have HO6 := Veil.mk (HBX.out.2.2.2.1.below hb6)
   have HB6 := Veil.mk (And.intro (blw2 HBF.out hb6) (And.intro bx (And.intro (HBX.out.1.below hb6) (And.intro (HBX.out.2.1.below hb6) (HBX.out.2.2.1.below hb6)))))
   have HEBN : Veil (vb < eb /\ ka < eb /\ kb < eb /\ eb < w6.heap.size) := ⟨by
    have h1 := (HBX.out.2.2.1.below HB5.out).lt
    have h2 := (HBX.out.1.below HB5.out).lt
    have h3 := (HBX.out.2.1.below HB5.out).lt
    have h4 := bx.lt
    omega⟩
   clear heb hw6 e14 HWD HB5 hb6 bx bl HOE HQ HBX
   have e14 : w6.cell? ⟨o, 14, none⟩ = some (.int .i64 (i : Int)) := HO6.out.at_ 14
   have f14 := HO6.out.free 14
   go_upto_region 13 with (fail)
   have hmE : MP w6 h A m f ts := HP0.out.on HB6.out.1
   have hob9 := HO6.out.put 14 (.int .i64 ((i : Int) + 1))
   have hst := hmE.stepV_at (V := fun _ => False) (W' := w6.setCell ⟨o, 14, none⟩ (.int .i64 ((i : Int) + 1))) HPL.out.1 rfl (.pointer none) (.slice none 0 0) .nilIface ⟨kd, .slice (some ⟨g, 0, none⟩) 1 1, (i : Int) + 1, false⟩ (fun _ => False) [] (fun k hk => hk.elim) (Touch.put (.inl rfl) _ _) hob9 (.inl ⟨rfl, rfl, rfl⟩) (fun k hk => hk.elim)
   have hbk6 : Bk A W (w6.setCell ⟨o, 14, none⟩ (.int .i64 ((i : Int) + 1))) := (Bk.of_below HPL.out.2.1 (HBB.out.1.trans (HB6.out.1.mono HBB.out.1.size))).trans ⟨hst.2.bel, fun k e he hl => hst.2.kv k e he hl (fun h => h)⟩
   obtain ⟨w8, hw8⟩ : ∃ w8, w6.setCell ⟨o, 14, none⟩ (.int .i64 ((i : Int) + 1)) = w8 := ⟨_, rfl⟩
   have hto : Touch (fun k => k = o) w6 w8 := by rw [<- hw8]; exact Touch.put (S := fun k => k = o) rfl _ _
   rw [hw8] at hst hbk6 ⊢
   have hno : ∀ k cs, Box w6 k VTy cs -> Box w8 k VTy cs := fun k cs hx => hx.touch hto (hx.other HO6.out (by decide))
   have hel8 : EL w8 A (.slice ao n cap) n xs := (HEL.out.on HB6.out.1).bv hst.2 (fun k hk h => h)
   have hpa8 : (ts.set iw (TO.wkr o kd (.slice (some ⟨g, 0, none⟩) 1 1) ((i : Int) + 1)))[ia]? = some (TO.arr b 3 (.slice ao n cap)) := by rw [List.getElem?_set_ne HPL.out.2.2.2]; exact HPL.out.2.2.1
   have hm8 : MP w8 h A m f (ts.set iw (TO.wkr o kd (.slice (some ⟨g, 0, none⟩) 1 1) ((i : Int) + 1))) := hst.1
   have hget := (get_el fv H9.out (hm8.mm.mb.at_ 0) hm8.mm.mb.lt (hm8.mem_b (List.mem_of_getElem? hpa8) rfl) hel8 hin _hn9 (by rw [HXE.out]; exact hx) ⟨fun w' hb => by rw [<- HFV.out]; exact (hm8.on hb).of_at hpa8 rfl _⟩)
   rw [HXE.out] at hget
   have HGT := Veil.mk hget
   have HS8 := Veil.mk (And.intro hm8 hbk6)
   have HB8 := Veil.mk (And.intro (hno _ _ HB6.out.2.1) (And.intro (hno _ _ HB6.out.2.2.1) (And.intro (hno _ _ HB6.out.2.2.2.1) (And.intro (hno _ _ HB6.out.2.2.2.2) hto.size))))
   clear e14 f14 hmE hob9 hst hbk6 hw8 hto hno HO6 HB6 hel8 hpa8 hm8 HOF hget HEL
   have c0 : w8.cell? ⟨vb, 0, none⟩ = some (.int .i64 fv.1) := HB8.out.2.2.2.1.at_ 0
   have c1 : w8.cell? ⟨vb, 1, none⟩ = some (.int .i64 fv.2.1) := HB8.out.2.2.2.1.at_ 1
   have c2 : w8.cell? ⟨vb, 2, none⟩ = some (.string fv.2.2) := HB8.out.2.2.2.1.at_ 2
   have d0 : w8.cell? ⟨eb, 0, none⟩ = some (.int .i64 3) := HB8.out.1.at_ 0
   have d1 : w8.cell? ⟨eb, 1, none⟩ = some (.int .i64 (i : Int)) := HB8.out.1.at_ 1
   have d2 : w8.cell? ⟨eb, 2, none⟩ = some (.string ⟨#[]⟩) := HB8.out.1.at_ 2
   go_upto_region 14 with (go_at_call 189; ((with_reducible refine HGT.out.mono ?_); rintro e w9 ⟨rfl, hb9⟩; have HB9 := Veil.mk hb9; clear hb9))
   obtain ⟨xb, hxb⟩ : ∃ xb, w9.heap.size = xb := ⟨_, rfl⟩
   obtain ⟨w10, hw10⟩ : ∃ w10, w9.alloc (.cells #[.int .i64 x.1, .int .i64 x.2.1, .string x.2.2] 28) = w10 := ⟨_, rfl⟩
   have bx := Box.new w9 28 #[.int .i64 x.1, .int .i64 x.2.1, .string x.2.2]
   have bl : Below w9.heap.size w9 (w9.alloc (.cells #[.int .i64 x.1, .int .i64 x.2.1, .string x.2.2] 28)) := (Below.refl _ _).alloc (Nat.le_refl _) _
   rw [hw10] at bx bl ⊢
   rw [hxb] at bx ⊢
   obtain ⟨WD, hWD⟩ : ∃ WD, w10.drew = WD := ⟨_, rfl⟩
   have hdr : Below w10.heap.size w10 WD := by rw [<- hWD]; exact (Below.refl _ _).drew
   have hb8D := blw2 (blw2 HB9.out bl) hdr
   have HR : Veil (Box WD eb VTy #[.int .i64 3, .int .i64 (i : Int), .string ⟨#[]⟩] /\ Box WD xb VTy #[.int .i64 x.1, .int .i64 x.2.1, .string x.2.2] /\ Box WD ka VTy #[.int .i64 0, .int .i64 0, .string ⟨#[]⟩] /\ Box WD kb VTy #[.int .i64 0, .int .i64 0, .string ⟨#[]⟩] /\ xb ≠ ka /\ kb ≠ ka /\ A <= WD.heap.size /\ A <= ka /\ A <= kb) := ⟨HB8.out.1.below hb8D, bx.below hdr, HB8.out.2.1.below hb8D, HB8.out.2.2.1.below hb8D, by have := HEBN.out; have := HB9.out.size; have := HB8.out.2.2.2.2; omega, by have := HW0.out.2.2; omega, by
    have h1 := HPL.out.2.1
    have h2 := HBB.out.1.size
    have h3 := HB8.out.2.1.lt
    have h4 := hb8D.size
    have h5 := HLO.out.1
    omega, Nat.le_trans HPL.out.2.1 HLO.out.1, Nat.le_trans HPL.out.2.1 HLO.out.2⟩
   have HS9 := Veil.mk (And.intro (HS8.out.1.on hb8D) (HS8.out.2.trans (Bk.of_below (Nat.le_of_lt HS8.out.1.mm.alt) hb8D)))
   have HWD := Veil.mk hWD
   clear hWD hdr hb8D hxb hw10 bx bl HB9 HGT HB8 HS8 c0 c1 c2 d0 d1 d2
   refine wp_region_chain (some (· = valV (3, (i : Int), ⟨#[]⟩)) :: some (· = valV x) :: some (· = .int .i64 0) :: none :: none :: some (· = .int .i64 0) :: [] : List (Option (Value -> Prop))) (LPh [3, 4] (SqSt WD [(fun w => Touch (fun k => k = ka) WD w /\ Box w ka VTy #[.int .i64 3, .int .i64 (i : Int), .string ⟨#[]⟩]), (fun w => Touch (fun k => k = ka \/ k = kb) WD w /\ Box w ka VTy #[.int .i64 3, .int .i64 (i : Int), .string ⟨#[]⟩] /\ Box w kb VTy #[.int .i64 x.1, .int .i64 x.2.1, .string x.2.2])])) [some 102, some 103, some 104, none, none, some 6] (curV' _ [some 102, some 103, some 104, none, none, some 6]) (by kernel_rfl) rfl rfl (puts_cur _ _) (LPh.start (show _ = WD from HWD.out)) ?_ (by kernel_rfl) ?_
   ·refine SV rfl (fun _ _ w' _ _ S => ?_) ?_
    ·obtain ⟨_, _, _, _, _, _, rfl⟩ := lenA6 S.hu
     have gb := (S.hI.bwd [0] 3 0 (by kernel_rfl) rfl S.h0)
     have hst := S.hI.ph.btw1 0 (.inl rfl) (.inr ⟨3, rfl, gb⟩)
     have hst' : WD = w' := (show w' = WD from hst).symm
     clear hst
     subst hst'
     have c0 : WD.cell? ⟨eb, 0, none⟩ = some (.int .i64 3) := HR.out.1.at_ 0
     have c1 : WD.cell? ⟨eb, 1, none⟩ = some (.int .i64 (i : Int)) := HR.out.1.at_ 1
     have c2 : WD.cell? ⟨eb, 2, none⟩ = some (.string ⟨#[]⟩) := HR.out.1.at_ 2
     clear gb
     rw [pin S.ha]
     go_simp
     exact S.kL 0 rfl rfl rfl rfl
    refine SV rfl (fun _ _ w' _ _ S => ?_) ?_
    ·obtain ⟨_, _, _, _, _, _, rfl⟩ := lenA6 S.hu
     have gb := (S.hI.bwd [1] 4 1 (by kernel_rfl) rfl S.h0)
     obtain ⟨sg, hlo, hhi, hst⟩ := S.hI.ph.btw 0 1 (.inl rfl) (.inr ⟨4, rfl, gb⟩)
     have hx1 := SqSt.box2 hst (by omega) HR.out.2.1 (fun w hw => HR.out.2.1.touch hw.1 HR.out.2.2.2.2.1)
     clear hst
     have c0 : w'.cell? ⟨xb, 0, none⟩ = some (.int .i64 x.1) := hx1.at_ 0
     have c1 : w'.cell? ⟨xb, 1, none⟩ = some (.int .i64 x.2.1) := hx1.at_ 1
     have c2 : w'.cell? ⟨xb, 2, none⟩ = some (.string x.2.2) := hx1.at_ 2
     clear hx1
     clear gb
     rw [pin S.ha]
     go_simp
     exact S.kL 1 rfl rfl rfl rfl
    refine SV rfl (fun _ _ _ _ _ S => ?_) ?_
    ·obtain ⟨_, _, _, _, _, _, rfl⟩ := lenA6 S.hu
     rw [pin S.ha]
     go_simp
     exact S.kL 2 rfl rfl rfl rfl
    refine SV rfl (fun _ _ w' _ _ S => ?_) ?_
    ·obtain ⟨u0, _, _, _, _, _, rfl⟩ := lenA6 S.hu
     obtain rfl : u0 = _ := S.q 0 rfl
     have gb := S.h0
     have hst := S.hI.ph.btw1 0 (.inl rfl) (.inr ⟨3, rfl, gb⟩)
     have hst' : WD = w' := (show w' = WD from hst).symm
     clear hst
     subst hst'
     have z0 : WD.cell? ⟨ka, 0, none⟩ = some (.int .i64 0) := HR.out.2.2.1.at_ 0
     have z1 : WD.cell? ⟨ka, 1, none⟩ = some (.int .i64 0) := HR.out.2.2.1.at_ 1
     have z2 : WD.cell? ⟨ka, 2, none⟩ = some (.string ⟨#[]⟩) := HR.out.2.2.1.at_ 2
     have q0 := HR.out.2.2.1.free 0
     have q1 := HR.out.2.2.1.free 1
     have q2 := HR.out.2.2.1.free 2
     clear gb
     rw [pin S.ha]
     go_simp
     exact S.kN 3 undef rfl rfl rfl (S.hI.ph.next 0 3 _ rfl S.h0 (.inl rfl) (by decide) (⟨touch3 _ _ _ _ _, ((HR.out.2.2.1.put 0 _).put 1 _).put 2 _⟩))
    refine SV rfl (fun _ _ w' _ _ S => ?_) ?_
    ·obtain ⟨_, u1, _, _, _, _, rfl⟩ := lenA6 S.hu
     obtain rfl : u1 = _ := S.q 1 rfl
     have ga := (gen_after 3 (by kernel_rfl) S.hp)
     have gb := S.h0
     have hst := S.hI.ph.btw1 1 (.inr ⟨3, rfl, ga⟩) (.inr ⟨4, rfl, gb⟩)
     have HS1 := Veil.mk (show Touch (fun k => k = ka) WD w' /\ Box w' ka VTy #[.int .i64 3, .int .i64 (i : Int), .string ⟨#[]⟩] from hst)
     clear hst
     have hkb1 := HR.out.2.2.2.1.touch HS1.out.1 HR.out.2.2.2.2.2.1
     have z0 : w'.cell? ⟨kb, 0, none⟩ = some (.int .i64 0) := hkb1.at_ 0
     have z1 : w'.cell? ⟨kb, 1, none⟩ = some (.int .i64 0) := hkb1.at_ 1
     have z2 : w'.cell? ⟨kb, 2, none⟩ = some (.string ⟨#[]⟩) := hkb1.at_ 2
     have q0 := hkb1.free 0
     have q1 := hkb1.free 1
     have q2 := hkb1.free 2
     have HKB1 := Veil.mk hkb1
     clear hkb1
     have HGA := Veil.mk ga
     clear ga gb
     rw [pin S.ha]
     go_simp
     exact S.kN 4 undef rfl rfl rfl (S.hI.ph.next 1 4 _ rfl S.h0 (.inr ⟨3, rfl, HGA.out⟩) (by decide) (⟨(HS1.out.1.mono (fun _ h => .inl h)).trans ((touch3 _ _ _ _ _).mono (fun _ h => .inr h)), HS1.out.2.touch (touch3 _ _ _ _ _) (Ne.symm HR.out.2.2.2.2.2.1), ((HKB1.out.put 0 _).put 1 _).put 2 _⟩))
    refine SV rfl (fun _ _ _ _ _ S => ?_) ?_
    ·obtain ⟨_, _, u2, _, _, _, rfl⟩ := lenA6 S.hu
     obtain rfl : u2 = _ := S.q 2 rfl
     rw [pin S.ha]
     go_simp
     exact S.kL 5 rfl rfl rfl rfl
    exact Steps.nil
   ·intro us wE hus dd hD2 hJ
    obtain ⟨p0, p1, p2, p3, p4, p5, rfl⟩ := lenA6 hus
    have q1 := hJ.ph.all (fun c hc => hD2 c (by
     have : c = 3 \/ c = 4 := by simpa using hc
     show c < 6
     omega))
    obtain rfl : p0 = _ := hJ.vq 0 rfl rfl hD2
    obtain rfl : p1 = _ := hJ.vq 1 rfl rfl hD2
    obtain rfl : p2 = _ := hJ.vq 2 rfl rfl hD2
    obtain rfl : p5 = _ := hJ.vq 5 rfl rfl hD2
    clear hJ hD2
    have HQ := Veil.mk (show Touch (fun k => k = ka \/ k = kb) WD wE /\ Box wE ka VTy #[.int .i64 3, .int .i64 (i : Int), .string ⟨#[]⟩] /\ Box wE kb VTy #[.int .i64 x.1, .int .i64 x.2.1, .string x.2.2] from q1)
    clear q1
    simp only [puts, setAll, List.setIfInBounds_toArray, List.set_cons_zero, List.set_cons_succ]
    have r0 := HQ.out.2.1.at_ 0
    have r1 := HQ.out.2.1.at_ 1
    have r2 := HQ.out.2.1.at_ 2
    have s0 := HQ.out.2.2.at_ 0
    have s1 := HQ.out.2.2.at_ 1
    have s2 := HQ.out.2.2.at_ 2
    have hpE := HS9.out.1.touchV HQ.out.1 (fun k hk => ⟨VTy, by decide, hk.elim (fun e => by rw [e]; exact HR.out.2.2.1.lab) (fun e => by rw [e]; exact HR.out.2.2.2.1.lab)⟩)
    have hkE : Bk A W wE := ⟨HS9.out.2.bel.trans (HQ.out.1.below HR.out.2.2.2.2.2.2.1 (fun k hk => hk.elim (fun e => by rw [e]; exact HR.out.2.2.2.2.2.2.2.1) (fun e => by rw [e]; exact HR.out.2.2.2.2.2.2.2.2))), fun k e he hl => by
     have hkl := lab_lt hl
     have e1 := HS9.out.2.kv k e he hl
     exact (HQ.out.1.block k (Nat.lt_of_lt_of_le hkl HS9.out.2.bel.size) (fun h => by
      have := HLO.out.1
      have := HLO.out.2
      rcases h with h | h <;> omega)).trans e1⟩
    go_wp2
    exact bodyPost_ret (v := .tuple #[valV (3, (i : Int), ⟨#[]⟩), valV x, .int .i64 0]) (by simp [results, Tryz.results365, go_sem, r0, r1, r2, s0, s1, s2]) rfl ⟨rfl, hpE, hkE⟩
set_option maxHeartbeats 16000000 in
set_option maxRecDepth 100000 in
theorem MP.adv_arr_end (H : MP W h A m f ts) {iw ia o g b i n : Nat} {kd : Int} {ev : Value} {xs : Nat -> Vt} (hp : ts[iw]? = some (TO.wkr o kd (.slice (some ⟨g, 0, none⟩) 1 1) (i : Int))) (hpa : ts[ia]? = some (TO.arr b 3 ev)) (hne : iw ≠ ia) (hg : Box W g VTy #[.int .i64 9, .int .i64 ((ia : Int) + 1), .string ⟨#[]⟩]) (hel : EL W A ev n xs) (_hn9 : n <= 1000000) (hi9 : i <= 1000000) (hin : n <= i) :
  Calls Tryz.prog 365 #[.pointer (some ⟨m, 0, none⟩), .pointer (some ⟨o, 0, none⟩)] W fun e w' => e = .returned (.tuple #[valV zV, valV zV, .int .i64 0]) /\ MP w' h A m f (ts.set iw (TO.wkr o kd (.slice none 0 0) (i : Int))) /\ Bk A W w' := by
 have hA := Nat.le_of_lt H.mm.alt
 have hob : Box W o 63 (objF 5 12 false (.pointer none) (.slice none 0 0) .nilIface ⟨kd, .slice (some ⟨g, 0, none⟩) 1 1, (i : Int), false⟩) := H.mem_b (List.mem_of_getElem? hp) rfl
 obtain ⟨fv, hfv⟩ : ∃ fv : Vt, ((9, (ia : Int) + 1, ⟨#[]⟩) : Vt) = fv := ⟨_, rfl⟩
 have hg2 : Box W g VTy #[.int .i64 fv.1, .int .i64 fv.2.1, .string fv.2.2] := by rw [<- hfv]; exact hg
 have HOF : Veil (∀ w', Below W.heap.size W w' -> Calls Tryz.prog 14 #[.pointer (some ⟨h, 0, none⟩), valV fv] w' fun e w9 => e = .returned (.pointer (some ⟨b, 0, none⟩)) /\ Below w'.heap.size w' w9) := ⟨fun w' hb => by rw [<- hfv]; exact (H.on hb).of_at hpa rfl _⟩
 have HFV : Veil (((9, (ia : Int) + 1, ⟨#[]⟩) : Vt) = fv) := ⟨hfv⟩
 have H9 : Veil (fv.1 = 9) := ⟨by rw [<- hfv]⟩
 obtain ⟨ao, cap, rfl⟩ : ∃ ao cap, ev = .slice ao n cap := by
  rcases hel with ⟨e1, e2⟩ | ⟨g2, cap, e1, _⟩
  ·exact ⟨none, 0, by rw [e1, e2]⟩
  ·exact ⟨_, _, e1⟩
 have hbb : Box W b 63 (objF 1 3 false (.pointer none) (.slice ao n cap) .nilIface kd0) := H.mem_b (List.mem_of_getElem? hpa) rfl
 obtain ⟨ka, hka⟩ : ∃ ka, W.heap.size = ka := ⟨_, rfl⟩
 obtain ⟨kb, hkb⟩ : ∃ kb, ka + 1 = kb := ⟨_, rfl⟩
 obtain ⟨W0, hW0⟩ : ∃ W0, ((W.alloc (.cells #[.int .i64 0, .int .i64 0, .string ⟨#[]⟩] 28)).alloc (.cells #[.int .i64 0, .int .i64 0, .string ⟨#[]⟩] 28)) = W0 := ⟨_, rfl⟩
 have bb : Below W.heap.size W W0 := by rw [<- hW0]; exact (((Below.refl _ _).alloc (Nat.le_refl _) _).alloc (by simp only [World.size_alloc]; omega) _)
 have xka : Box W0 ka 28 #[.int .i64 0, .int .i64 0, .string ⟨#[]⟩] := by have h9 := ((Box.new W 28 #[.int .i64 0, .int .i64 0, .string ⟨#[]⟩]).more (.cells #[.int .i64 0, .int .i64 0, .string ⟨#[]⟩] 28)); rw [hW0, hka] at h9; exact h9
 have xkb : Box W0 kb 28 #[.int .i64 0, .int .i64 0, .string ⟨#[]⟩] := by have h9 := Box.new (W.alloc (.cells #[.int .i64 0, .int .i64 0, .string ⟨#[]⟩] 28)) 28 #[.int .i64 0, .int .i64 0, .string ⟨#[]⟩]; rw [hW0, show (W.alloc (.cells #[.int .i64 0, .int .i64 0, .string ⟨#[]⟩] 28)).heap.size = kb from by simp only [World.size_alloc]; omega] at h9; exact h9
 have HW0 := Veil.mk (And.intro hW0 (And.intro hka (hkb)))
 have HBB := Veil.mk (And.intro bb (And.intro xka (xkb)))
 have HLO : Veil (W.heap.size <= ka /\ W.heap.size <= kb) := ⟨by omega⟩
 clear hW0 bb hka xka hkb xkb
 have HP0 := Veil.mk (H.on HBB.out.1)
 have HPL := Veil.mk (And.intro hp (And.intro hA (And.intro hpa hne)))
 have HEL := Veil.mk (hel.on HBB.out.1)
 have ho0 := hob.below HBB.out.1
 have hg0 := hg2.below HBB.out.1
 have hb0' := hbb.below HBB.out.1
 have HG0 := Veil.mk (And.intro ho0 (And.intro hg0 hb0'))
 have hi0 : (0 : Int) <= (i : Int) := by omega
 have hi1 : ¬ (i : Int) < (n : Int) := by omega
 have d5 : W0.cell? ⟨o, 5, none⟩ = some (.slice (some ⟨g, 0, none⟩) 1 1) := ho0.at_ 5
 have d7 : W0.cell? ⟨o, 7, none⟩ = some (.pointer none) := ho0.at_ 7
 have c0 : W0.cell? ⟨g, 0, none⟩ = some (.int .i64 fv.1) := hg0.at_ 0
 have c1 : W0.cell? ⟨g, 1, none⟩ = some (.int .i64 fv.2.1) := hg0.at_ 1
 have c2 : W0.cell? ⟨g, 2, none⟩ = some (.string fv.2.2) := hg0.at_ 2
 clear H hp hpa hg hg2 hel hA hob hbb ho0 hg0 hb0' hfv
 go_enter Tryz.func365, Tryz.ntmps365
 go_upto_region 1 with (fail)
 rw [HW0.out.1, HW0.out.2.1, HW0.out.2.2]
 go_upto_region 4 with (fail)
 obtain ⟨vb, hvb⟩ : ∃ vb, W0.heap.size = vb := ⟨_, rfl⟩
 obtain ⟨W2, hW2⟩ : ∃ W2, W0.alloc (.cells #[.int .i64 fv.1, .int .i64 fv.2.1, .string fv.2.2] 28) = W2 := ⟨_, rfl⟩
 have bx := Box.new W0 28 #[.int .i64 fv.1, .int .i64 fv.2.1, .string fv.2.2]
 have bl : Below W0.heap.size W0 (W0.alloc (.cells #[.int .i64 fv.1, .int .i64 fv.2.1, .string fv.2.2] 28)) := (Below.refl _ _).alloc (Nat.le_refl _) _
 rw [hW2] at bx bl ⊢
 rw [hvb] at bx ⊢
 have HB2 := Veil.mk (And.intro bl bx)
 clear c0 c1 c2 d5 d7 hvb hW2 bl bx
 have d7 : W2.cell? ⟨o, 7, none⟩ = some (.pointer none) := (HG0.out.1.below HB2.out.1).at_ 7
 go_upto_region 9 with (fail)
 obtain ⟨WD, hWD⟩ : ∃ WD, W2.drew = WD := ⟨_, rfl⟩
 have hdr : Below W2.heap.size W2 WD := by rw [<- hWD]; exact (Below.refl _ _).drew
 have hbD := blw2 HB2.out.1 hdr
 have HBX := Veil.mk (And.intro (HBB.out.2.1.below hbD) (And.intro (HBB.out.2.2.below hbD) (And.intro (HB2.out.2.below hdr) (And.intro (HG0.out.1.below hbD) (And.intro (HG0.out.2.2.below hbD) (show ∀ w', Below WD.heap.size WD w' -> w'.cell? ⟨m, 0, none⟩ = some (.pointer (some ⟨h, 0, none⟩)) from fun w' hb => ((HP0.out.on hbD).on hb).mm.mb.at_ 0))))))
 have HBF := Veil.mk hbD
 have HWD := Veil.mk hWD
 clear hWD hdr hbD d7 HB2 HG0
 refine wp_region_chain (some (· = .pointer (some ⟨m, 0, none⟩)) :: some (· = .pointer (some ⟨m, 0, none⟩)) :: some (· = .pointer (some ⟨m, 0, none⟩)) :: some (· = .pointer (some ⟨h, 0, none⟩)) :: some (· = valV fv) :: some (· = .pointer (some ⟨b, 0, none⟩)) :: some (· = .pointer (some ⟨b, 0, none⟩)) :: [] : List (Option (Value -> Prop))) (QT WD) [some 56, some 57, some 58, some 59, some 60, some 61, some 12] (curV' _ [some 56, some 57, some 58, some 59, some 60, some 61, some 12]) (by kernel_rfl) rfl rfl (puts_cur _ _) (by rw [HWD.out]; exact QT.start) ?_ (by kernel_rfl) ?_
 ·refine SV rfl (fun _ _ _ _ _ S => ?_) ?_
  ·obtain ⟨_, _, _, _, _, _, _, rfl⟩ := lenA7 S.hu
   rw [pin S.ha]
   go_simp
   exact S.kS 0 _ rfl rfl rfl rfl (S.hI.ph.pure 0 _)
  refine SV rfl (fun _ _ _ _ _ S => ?_) ?_
  ·obtain ⟨u0, _, _, _, _, _, _, rfl⟩ := lenA7 S.hu
   obtain rfl : u0 = _ := S.q 0 rfl
   rw [pin S.ha]
   go_simp
   exact S.kS 1 _ rfl rfl rfl rfl (S.hI.ph.pure 1 _)
  refine SV rfl (fun _ _ _ _ _ S => ?_) ?_
  ·obtain ⟨_, u1, _, _, _, _, _, rfl⟩ := lenA7 S.hu
   obtain rfl : u1 = _ := S.q 1 rfl
   rw [pin S.ha]
   go_simp
   exact S.kS 2 _ rfl rfl rfl rfl (S.hI.ph.pure 2 _)
  refine SV rfl (fun _ _ w' _ _ S => ?_) ?_
  ·obtain ⟨_, _, u2, _, _, _, _, rfl⟩ := lenA7 S.hu
   obtain rfl : u2 = _ := S.q 2 rfl
   have hbl := S.hI.ph.b
   have c0 : w'.cell? ⟨m, 0, none⟩ = some (.pointer (some ⟨h, 0, none⟩)) := HBX.out.2.2.2.2.2 w' hbl
   clear hbl
   rw [pin S.ha]
   go_simp
   exact S.kS 3 _ rfl rfl rfl rfl (S.hI.ph.pure 3 _)
  refine SV rfl (fun _ _ w' _ _ S => ?_) ?_
  ·obtain ⟨_, _, _, _, _, _, _, rfl⟩ := lenA7 S.hu
   have hbl := S.hI.ph.b
   have c0 : w'.cell? ⟨vb, 0, none⟩ = some (.int .i64 fv.1) := (HBX.out.2.2.1.below hbl).at_ 0
   have c1 : w'.cell? ⟨vb, 1, none⟩ = some (.int .i64 fv.2.1) := (HBX.out.2.2.1.below hbl).at_ 1
   have c2 : w'.cell? ⟨vb, 2, none⟩ = some (.string fv.2.2) := (HBX.out.2.2.1.below hbl).at_ 2
   clear hbl
   rw [pin S.ha]
   go_simp
   exact S.kS 4 _ rfl rfl rfl rfl (S.hI.ph.pure 4 _)
  refine SV rfl (fun _ _ _ _ _ S => ?_) ?_
  ·obtain ⟨_, _, _, u3, u4, _, _, rfl⟩ := lenA7 S.hu
   obtain rfl : u3 = _ := S.q 3 rfl
   obtain rfl : u4 = _ := S.q 4 rfl
   rw [pin S.ha]
   go_simp
   go_at_call 14
   refine (HOF.out _ (HBB.out.1.trans ((blw2 HBF.out S.hI.ph.b).mono HBB.out.1.size))).mono ?_
   rintro e9 w9 ⟨rfl, hm9⟩
   go_simp
   exact S.kS 5 _ rfl rfl rfl rfl (S.hI.ph.quiet 5 _ hm9)
  refine SV rfl (fun _ _ _ _ _ S => ?_) ?_
  ·obtain ⟨_, _, _, _, _, u5, _, rfl⟩ := lenA7 S.hu
   obtain rfl : u5 = _ := S.q 5 rfl
   rw [pin S.ha]
   go_simp
   exact S.kS 6 _ rfl rfl rfl rfl (S.hI.ph.pure 6 _)
  exact Steps.nil
 ·intro us wE hus dd hD2 hJ
  obtain ⟨p0, p1, p2, p3, p4, p5, p6, rfl⟩ := lenA7 hus
  have hph := hJ.ph
  obtain rfl : p0 = _ := hJ.vq 0 rfl rfl hD2
  obtain rfl : p1 = _ := hJ.vq 1 rfl rfl hD2
  obtain rfl : p2 = _ := hJ.vq 2 rfl rfl hD2
  obtain rfl : p3 = _ := hJ.vq 3 rfl rfl hD2
  obtain rfl : p4 = _ := hJ.vq 4 rfl rfl hD2
  obtain rfl : p5 = _ := hJ.vq 5 rfl rfl hD2
  obtain rfl : p6 = _ := hJ.vq 6 rfl rfl hD2
  clear hJ
  have HQ := Veil.mk hph.b
  clear hph hD2
  simp only [puts, setAll, List.setIfInBounds_toArray, List.set_cons_zero, List.set_cons_succ]
  go_upto_region 10 with (fail)
  obtain ⟨WD, hWD⟩ : ∃ WD, wE.drew = WD := ⟨_, rfl⟩
  have hdr : Below wE.heap.size wE WD := by rw [<- hWD]; exact (Below.refl _ _).drew
  have hb9 := blw2 (HQ.out) hdr
  have HBX := Veil.mk (And.intro (HBX.out.1.below hb9) (And.intro (HBX.out.2.1.below hb9) (And.intro (HBX.out.2.2.1.below hb9) (And.intro (HBX.out.2.2.2.1.below hb9) (And.intro (HBX.out.2.2.2.2.1.below hb9) (show ∀ w', Below WD.heap.size WD w' -> w'.cell? ⟨m, 0, none⟩ = some (.pointer (some ⟨h, 0, none⟩)) from fun w' hb => HBX.out.2.2.2.2.2 w' (hb9.trans (hb.mono hb9.size))))))))
  have HBF := Veil.mk (blw2 HBF.out hb9)
  have HWD := Veil.mk hWD
  clear hWD hdr hb9
  clear HQ
  refine wp_region_chain (some (· = .pointer (some ⟨b, 0, none⟩)) :: some (· = (.bool true)) :: some (· = (.bool true)) :: some (· = .pointer (some ⟨b, 0, none⟩)) :: some (· = .pointer (some ⟨b, 0, none⟩)) :: some (· = .pointer (some ⟨b, 0, none⟩)) :: some (· = .int .i64 1) :: some (· = (.bool true)) :: some (· = (.bool true)) :: some (· = (.bool true)) :: some (· = .pointer (some ⟨o, 0, none⟩)) :: some (· = .pointer (some ⟨o, 0, none⟩)) :: some (· = .pointer (some ⟨o, 14, none⟩)) :: some (· = .int .i64 (i : Int)) :: some (· = .pointer (some ⟨b, 0, none⟩)) :: some (· = .pointer (some ⟨b, 0, none⟩)) :: some (· = .pointer (some ⟨b, 4, none⟩)) :: some (· = .slice ao n cap) :: some (· = .int .i64 (n : Int)) :: some (· = (.bool false)) :: some (· = (.bool false)) :: [] : List (Option (Value -> Prop))) (QT WD) [some 62, some 63, some 64, some 65, some 66, some 67, some 68, some 69, some 70, some 71, some 72, some 73, some 74, some 75, some 76, some 77, some 78, some 79, some 80, some 81, some 82] (curV' _ [some 62, some 63, some 64, some 65, some 66, some 67, some 68, some 69, some 70, some 71, some 72, some 73, some 74, some 75, some 76, some 77, some 78, some 79, some 80, some 81, some 82]) (by kernel_rfl) rfl rfl (puts_cur _ _) (by rw [HWD.out]; exact QT.start) ?_ (by kernel_rfl) ?_
  ·refine SV rfl (fun _ _ _ _ _ S => ?_) ?_
   ·obtain ⟨_, _, _, _, _, _, _, _, _, _, _, _, _, _, _, _, _, _, _, _, _, rfl⟩ := lenA21 S.hu
    rw [pin S.ha]
    go_simp
    exact S.kS 0 _ rfl rfl rfl rfl (S.hI.ph.pure 0 _)
   refine SV rfl (fun _ _ _ _ _ S => ?_) ?_
   ·obtain ⟨u0, _, _, _, _, _, _, _, _, _, _, _, _, _, _, _, _, _, _, _, _, rfl⟩ := lenA21 S.hu
    obtain rfl : u0 = _ := S.q 0 rfl
    rw [pin S.ha]
    go_simp
    exact S.kS 1 _ rfl rfl rfl rfl (S.hI.ph.pure 1 _)
   refine SV rfl (fun _ _ _ _ _ S => ?_) ?_
   ·obtain ⟨_, u1, _, _, _, _, _, _, _, _, _, _, _, _, _, _, _, _, _, _, _, rfl⟩ := lenA21 S.hu
    obtain rfl : u1 = _ := S.q 1 rfl
    rw [pin S.ha]
    go_simp
    exact S.kS 2 _ rfl rfl rfl rfl (S.hI.ph.pure 2 _)
   refine SW (fun _ _ _ _ _ S => ?_) ?_
   ·obtain ⟨_, _, u2, _, _, _, _, _, _, _, _, _, _, _, _, _, _, _, _, _, _, rfl⟩ := lenA21 S.hu
    obtain rfl : u2 = _ := S.q 2 rfl
    rw [if_pos (S.wt 2 64)]
    rw [pin S.ha]
    go_simp
    exact S.kS 3 _ rfl rfl rfl rfl (S.hI.ph.pure 3 _)
   refine SW (fun _ _ _ _ _ S => ?_) ?_
   ·obtain ⟨_, _, u2, u3, _, _, _, _, _, _, _, _, _, _, _, _, _, _, _, _, _, rfl⟩ := lenA21 S.hu
    obtain rfl : u3 = _ := S.q 3 rfl
    obtain rfl : u2 = _ := S.q 2 rfl
    rw [if_pos (S.wt 2 64)]
    rw [pin S.ha]
    go_simp
    exact S.kS 4 _ rfl rfl rfl rfl (S.hI.ph.pure 4 _)
   refine SW (fun _ _ _ _ _ S => ?_) ?_
   ·obtain ⟨_, _, u2, _, u4, _, _, _, _, _, _, _, _, _, _, _, _, _, _, _, _, rfl⟩ := lenA21 S.hu
    obtain rfl : u4 = _ := S.q 4 rfl
    obtain rfl : u2 = _ := S.q 2 rfl
    rw [if_pos (S.wt 2 64)]
    rw [pin S.ha]
    go_simp
    exact S.kS 5 _ rfl rfl rfl rfl (S.hI.ph.pure 5 _)
   refine SW (fun _ _ w' _ _ S => ?_) ?_
   ·obtain ⟨_, _, u2, _, _, u5, _, _, _, _, _, _, _, _, _, _, _, _, _, _, _, rfl⟩ := lenA21 S.hu
    obtain rfl : u5 = _ := S.q 5 rfl
    obtain rfl : u2 = _ := S.q 2 rfl
    rw [if_pos (S.wt 2 64)]
    have hbl := S.hI.ph.b
    have c0 : w'.cell? ⟨b, 0, none⟩ = some (.int .i64 1) := (HBX.out.2.2.2.2.1.below hbl).at_ 0
    clear hbl
    rw [pin S.ha]
    go_simp
    exact S.kS 6 _ rfl rfl rfl rfl (S.hI.ph.pure 6 _)
   refine SW (fun _ _ _ _ _ S => ?_) ?_
   ·obtain ⟨_, _, u2, _, _, _, u6, _, _, _, _, _, _, _, _, _, _, _, _, _, _, rfl⟩ := lenA21 S.hu
    obtain rfl : u6 = _ := S.q 6 rfl
    obtain rfl : u2 = _ := S.q 2 rfl
    rw [if_pos (S.wt 2 64)]
    rw [pin S.ha]
    go_simp
    exact S.kS 7 _ rfl rfl rfl rfl (S.hI.ph.pure 7 _)
   refine SV rfl (fun _ _ _ _ _ S => ?_) ?_
   ·obtain ⟨_, _, u2, _, _, _, _, u7, _, _, _, _, _, _, _, _, _, _, _, _, _, rfl⟩ := lenA21 S.hu
    obtain rfl : u2 = _ := S.q 2 rfl
    obtain rfl : u7 = _ := S.q 7 rfl
    rw [pin S.ha]
    go_simp
    exact S.kS 8 _ rfl rfl rfl rfl (S.hI.ph.pure 8 _)
   refine SV rfl (fun _ _ _ _ _ S => ?_) ?_
   ·obtain ⟨_, _, _, _, _, _, _, _, u8, _, _, _, _, _, _, _, _, _, _, _, _, rfl⟩ := lenA21 S.hu
    obtain rfl : u8 = _ := S.q 8 rfl
    rw [pin S.ha]
    go_simp
    exact S.kS 9 _ rfl rfl rfl rfl (S.hI.ph.pure 9 _)
   refine SW (fun _ _ _ _ _ S => ?_) ?_
   ·obtain ⟨_, _, _, _, _, _, _, _, _, u9, _, _, _, _, _, _, _, _, _, _, _, rfl⟩ := lenA21 S.hu
    obtain rfl : u9 = _ := S.q 9 rfl
    rw [if_pos (S.wt 9 71)]
    rw [pin S.ha]
    go_simp
    exact S.kS 10 _ rfl rfl rfl rfl (S.hI.ph.pure 10 _)
   refine SW (fun _ _ _ _ _ S => ?_) ?_
   ·obtain ⟨_, _, _, _, _, _, _, _, _, u9, u10, _, _, _, _, _, _, _, _, _, _, rfl⟩ := lenA21 S.hu
    obtain rfl : u10 = _ := S.q 10 rfl
    obtain rfl : u9 = _ := S.q 9 rfl
    rw [if_pos (S.wt 9 71)]
    rw [pin S.ha]
    go_simp
    exact S.kS 11 _ rfl rfl rfl rfl (S.hI.ph.pure 11 _)
   refine SW (fun _ _ _ _ _ S => ?_) ?_
   ·obtain ⟨_, _, _, _, _, _, _, _, _, u9, _, u11, _, _, _, _, _, _, _, _, _, rfl⟩ := lenA21 S.hu
    obtain rfl : u11 = _ := S.q 11 rfl
    obtain rfl : u9 = _ := S.q 9 rfl
    rw [if_pos (S.wt 9 71)]
    rw [pin S.ha]
    go_simp
    exact S.kS 12 _ rfl rfl rfl rfl (S.hI.ph.pure 12 _)
   refine SW (fun _ _ w' _ _ S => ?_) ?_
   ·obtain ⟨_, _, _, _, _, _, _, _, _, u9, _, _, u12, _, _, _, _, _, _, _, _, rfl⟩ := lenA21 S.hu
    obtain rfl : u12 = _ := S.q 12 rfl
    obtain rfl : u9 = _ := S.q 9 rfl
    rw [if_pos (S.wt 9 71)]
    have hbl := S.hI.ph.b
    have c14 : w'.cell? ⟨o, 14, none⟩ = some (.int .i64 (i : Int)) := (HBX.out.2.2.2.1.below hbl).at_ 14
    clear hbl
    rw [pin S.ha]
    go_simp
    exact S.kS 13 _ rfl rfl rfl rfl (S.hI.ph.pure 13 _)
   refine SW (fun _ _ _ _ _ S => ?_) ?_
   ·obtain ⟨_, _, _, _, _, _, _, _, _, u9, _, _, _, _, _, _, _, _, _, _, _, rfl⟩ := lenA21 S.hu
    obtain rfl : u9 = _ := S.q 9 rfl
    rw [if_pos (S.wt 9 71)]
    rw [pin S.ha]
    go_simp
    exact S.kS 14 _ rfl rfl rfl rfl (S.hI.ph.pure 14 _)
   refine SW (fun _ _ _ _ _ S => ?_) ?_
   ·obtain ⟨_, _, _, _, _, _, _, _, _, u9, _, _, _, _, u14, _, _, _, _, _, _, rfl⟩ := lenA21 S.hu
    obtain rfl : u14 = _ := S.q 14 rfl
    obtain rfl : u9 = _ := S.q 9 rfl
    rw [if_pos (S.wt 9 71)]
    rw [pin S.ha]
    go_simp
    exact S.kS 15 _ rfl rfl rfl rfl (S.hI.ph.pure 15 _)
   refine SW (fun _ _ _ _ _ S => ?_) ?_
   ·obtain ⟨_, _, _, _, _, _, _, _, _, u9, _, _, _, _, _, u15, _, _, _, _, _, rfl⟩ := lenA21 S.hu
    obtain rfl : u15 = _ := S.q 15 rfl
    obtain rfl : u9 = _ := S.q 9 rfl
    rw [if_pos (S.wt 9 71)]
    rw [pin S.ha]
    go_simp
    exact S.kS 16 _ rfl rfl rfl rfl (S.hI.ph.pure 16 _)
   refine SW (fun _ _ w' _ _ S => ?_) ?_
   ·obtain ⟨_, _, _, _, _, _, _, _, _, u9, _, _, _, _, _, _, u16, _, _, _, _, rfl⟩ := lenA21 S.hu
    obtain rfl : u16 = _ := S.q 16 rfl
    obtain rfl : u9 = _ := S.q 9 rfl
    rw [if_pos (S.wt 9 71)]
    have hbl := S.hI.ph.b
    have c4 : w'.cell? ⟨b, 4, none⟩ = some (.slice ao n cap) := (HBX.out.2.2.2.2.1.below hbl).at_ 4
    clear hbl
    rw [pin S.ha]
    go_simp
    exact S.kS 17 _ rfl rfl rfl rfl (S.hI.ph.pure 17 _)
   refine SW (fun _ _ _ _ _ S => ?_) ?_
   ·obtain ⟨_, _, _, _, _, _, _, _, _, u9, _, _, _, _, _, _, _, u17, _, _, _, rfl⟩ := lenA21 S.hu
    obtain rfl : u17 = _ := S.q 17 rfl
    obtain rfl : u9 = _ := S.q 9 rfl
    rw [if_pos (S.wt 9 71)]
    rw [pin S.ha]
    go_simp
    exact S.kS 18 _ rfl rfl rfl rfl (S.hI.ph.pure 18 _)
   refine SW (fun _ _ _ _ _ S => ?_) ?_
   ·obtain ⟨_, _, _, _, _, _, _, _, _, u9, _, _, _, u13, _, _, _, _, u18, _, _, rfl⟩ := lenA21 S.hu
    obtain rfl : u13 = _ := S.q 13 rfl
    obtain rfl : u18 = _ := S.q 18 rfl
    obtain rfl : u9 = _ := S.q 9 rfl
    rw [if_pos (S.wt 9 71)]
    rw [pin S.ha]
    go_simp
    exact S.kS 19 _ rfl rfl rfl rfl (S.hI.ph.pure 19 _)
   refine SV rfl (fun _ _ _ _ _ S => ?_) ?_
   ·obtain ⟨_, _, _, _, _, _, _, _, _, u9, _, _, _, _, _, _, _, _, _, u19, _, rfl⟩ := lenA21 S.hu
    obtain rfl : u9 = _ := S.q 9 rfl
    obtain rfl : u19 = _ := S.q 19 rfl
    rw [pin S.ha]
    go_simp
    exact S.kS 20 _ rfl rfl rfl rfl (S.hI.ph.pure 20 _)
   exact Steps.nil
  ·intro us wE hus dd hD2 hJ
   obtain ⟨p0, p1, p2, p3, p4, p5, p6, p7, p8, p9, p10, p11, p12, p13, p14, p15, p16, p17, p18, p19, p20, rfl⟩ := lenA21 hus
   have hph := hJ.ph
   obtain rfl : p0 = _ := hJ.vq 0 rfl rfl hD2
   obtain rfl : p1 = _ := hJ.vq 1 rfl rfl hD2
   obtain rfl : p2 = _ := hJ.vq 2 rfl rfl hD2
   obtain rfl : p3 = _ := hJ.vq 3 rfl rfl hD2
   obtain rfl : p4 = _ := hJ.vq 4 rfl rfl hD2
   obtain rfl : p5 = _ := hJ.vq 5 rfl rfl hD2
   obtain rfl : p6 = _ := hJ.vq 6 rfl rfl hD2
   obtain rfl : p7 = _ := hJ.vq 7 rfl rfl hD2
   obtain rfl : p8 = _ := hJ.vq 8 rfl rfl hD2
   obtain rfl : p9 = _ := hJ.vq 9 rfl rfl hD2
   obtain rfl : p10 = _ := hJ.vq 10 rfl rfl hD2
   obtain rfl : p11 = _ := hJ.vq 11 rfl rfl hD2
   obtain rfl : p12 = _ := hJ.vq 12 rfl rfl hD2
   obtain rfl : p13 = _ := hJ.vq 13 rfl rfl hD2
   obtain rfl : p14 = _ := hJ.vq 14 rfl rfl hD2
   obtain rfl : p15 = _ := hJ.vq 15 rfl rfl hD2
   obtain rfl : p16 = _ := hJ.vq 16 rfl rfl hD2
   obtain rfl : p17 = _ := hJ.vq 17 rfl rfl hD2
   obtain rfl : p18 = _ := hJ.vq 18 rfl rfl hD2
   obtain rfl : p19 = _ := hJ.vq 19 rfl rfl hD2
   obtain rfl : p20 = _ := hJ.vq 20 rfl rfl hD2
   clear hJ
   have HQ := Veil.mk hph.b
   clear hph hD2
   simp only [puts, setAll, List.setIfInBounds_toArray, List.set_cons_zero, List.set_cons_succ]
   have v0 : wE.cell? ⟨vb, 0, none⟩ = some (.int .i64 9) := by rw [<- H9.out]; exact (HBX.out.2.2.1.below HQ.out).at_ 0
   go_upto_region 15 with (fail)
   go_quiet (fail)
   obtain ⟨wF, hwF⟩ : ∃ wF, wE.drewN nq = wF := ⟨_, rfl⟩
   rw [hwF]
   have HQ : Veil (Below WD.heap.size WD wF) := ⟨HQ.out.trans (by rw [<- hwF]; exact ⟨rfl, rfl, rfl, Nat.le_refl _, fun _ _ => rfl⟩)⟩
   clear hwF v0 HWD HEL HOF
   have HOE := Veil.mk (HBX.out.2.2.2.1.below HQ.out)
   have e5 : wF.cell? ⟨o, 5, none⟩ = some (.slice (some ⟨g, 0, none⟩) 1 1) := HOE.out.at_ 5
   have f5 := HOE.out.free 5
   go_upto_region 22 with (fail)
   have hmE : MP wF h A m f ts := (HP0.out.on HBF.out).on HQ.out
   have hob9 := HOE.out.put 5 (.slice none 0 0)
   have hst := hmE.stepV_at (V := fun _ => False) (W' := wF.setCell ⟨o, 5, none⟩ (.slice none 0 0)) HPL.out.1 rfl (.pointer none) (.slice none 0 0) .nilIface ⟨kd, .slice none 0 0, (i : Int), false⟩ (fun _ => False) [] (fun k hk => hk.elim) (Touch.put (.inl rfl) _ _) hob9 (.inl ⟨rfl, rfl, rfl⟩) (fun k hk => hk.elim)
   have hbk6 : Bk A W (wF.setCell ⟨o, 5, none⟩ (.slice none 0 0)) := (Bk.of_below HPL.out.2.1 (HBB.out.1.trans ((blw2 HBF.out HQ.out).mono HBB.out.1.size))).trans ⟨hst.2.bel, fun k e he hl => hst.2.kv k e he hl (fun h => h)⟩
   obtain ⟨w8, hw8⟩ : ∃ w8, wF.setCell ⟨o, 5, none⟩ (.slice none 0 0) = w8 := ⟨_, rfl⟩
   have hto : Touch (fun k => k = o) wF w8 := by rw [<- hw8]; exact Touch.put (S := fun k => k = o) rfl _ _
   rw [hw8] at hst hbk6 ⊢
   have hno : ∀ k cs, Box wF k VTy cs -> Box w8 k VTy cs := fun k cs hx => hx.touch hto (hx.other HOE.out (by decide))
   have HKA := Veil.mk (hno _ _ (HBX.out.1.below HQ.out))
   have HKB := Veil.mk (hno _ _ (HBX.out.2.1.below HQ.out))
   have HS8 := Veil.mk (And.intro hst.1 hbk6)
   have HNK : Veil (kb ≠ ka) := ⟨by have := HW0.out.2.2; omega⟩
   clear e5 f5 hmE hob9 hst hbk6 hw8 hto hno HOE HQ HBX
   have z0 : w8.cell? ⟨ka, 0, none⟩ = some (.int .i64 0) := HKA.out.at_ 0
   have z1 : w8.cell? ⟨ka, 1, none⟩ = some (.int .i64 0) := HKA.out.at_ 1
   have z2 : w8.cell? ⟨ka, 2, none⟩ = some (.string ⟨#[]⟩) := HKA.out.at_ 2
   have q0 := HKA.out.free 0
   have q1 := HKA.out.free 1
   have q2 := HKA.out.free 2
   have x0 : w8.cell? ⟨kb, 0, none⟩ = some (.int .i64 0) := HKB.out.at_ 0
   have x1 : w8.cell? ⟨kb, 1, none⟩ = some (.int .i64 0) := HKB.out.at_ 1
   have x2 : w8.cell? ⟨kb, 2, none⟩ = some (.string ⟨#[]⟩) := HKB.out.at_ 2
   have y0 := HKB.out.free 0
   have y1 := HKB.out.free 1
   have y2 := HKB.out.free 2
   have hnk := HNK.out
   go_wp2
   have ha3 := ((HKA.out.put 0 (.int .i64 0)).put 1 (.int .i64 0)).put 2 (.string ⟨#[]⟩)
   have ha := ((ha3.touch (Touch.put (S := fun k => k = kb) rfl 0 (.int .i64 0)) (Ne.symm hnk)).touch (Touch.put (S := fun k => k = kb) rfl 1 (.int .i64 0)) (Ne.symm hnk)).touch (Touch.put (S := fun k => k = kb) rfl 2 (.string ⟨#[]⟩)) (Ne.symm hnk)
   have hk0 := ((HKB.out.touch (Touch.put (S := fun k => k = ka) rfl 0 (.int .i64 0)) hnk).touch (Touch.put (S := fun k => k = ka) rfl 1 (.int .i64 0)) hnk).touch (Touch.put (S := fun k => k = ka) rfl 2 (.string ⟨#[]⟩)) hnk
   have hb3 := ((hk0.put 0 (.int .i64 0)).put 1 (.int .i64 0)).put 2 (.string ⟨#[]⟩)
   have r0 := ha.at_ 0
   have r1 := ha.at_ 1
   have r2 := ha.at_ 2
   have s0 := hb3.at_ 0
   have s1 := hb3.at_ 1
   have s2 := hb3.at_ 2
   have hp3 := ((HS8.out.1.putv HKA.out.lab 0 (.int .i64 0)).putv (HKA.out.put 0 _).lab 1 (.int .i64 0)).putv ((HKA.out.put 0 _).put 1 _).lab 2 (.string ⟨#[]⟩)
   have hp6 := ((hp3.putv hk0.lab 0 (.int .i64 0)).putv (hk0.put 0 _).lab 1 (.int .i64 0)).putv ((hk0.put 0 _).put 1 _).lab 2 (.string ⟨#[]⟩)
   have hk3 := ((HS8.out.2.setv HLO.out.1 HPL.out.2.1 0 (.int .i64 0)).setv HLO.out.1 HPL.out.2.1 1 (.int .i64 0)).setv HLO.out.1 HPL.out.2.1 2 (.string ⟨#[]⟩)
   have hk6 := ((hk3.setv HLO.out.2 HPL.out.2.1 0 (.int .i64 0)).setv HLO.out.2 HPL.out.2.1 1 (.int .i64 0)).setv HLO.out.2 HPL.out.2.1 2 (.string ⟨#[]⟩)
   exact bodyPost_ret (v := .tuple #[valV zV, valV zV, .int .i64 0]) (by simp [results, Tryz.results365, go_sem, r0, r1, r2, s0, s1, s2]) rfl ⟨rfl, hp6, hk6⟩
end
section
variable {W : World} {h A m ia b : Nat} {f : MF} {ts : List TO}
set_option maxRecDepth 100000 in
set_option maxHeartbeats 16000000 in
theorem MP.doValues (H : MP W h A m f ts) (hf : f 11 = 12) (hl : ts.length < 99999) {ev0 : Value} (hat : ts[ia]? = some (TO.arr b 3 ev0)) (fo : Nat) (tgt : Vt) (args : Value) :
  Calls Tryz.prog 348 #[.pointer (some ⟨m, 0, none⟩), .int .i64 156, callV fo (9, (ia : Int) + 1, ⟨#[]⟩) args tgt] W fun e w' => e = .returned (.tuple #[valV (9, (ts.length : Int) + 1, ⟨#[]⟩), .int .i64 0]) /\ ∃ o g, MP w' h A m f (ts ++ [TO.wkr o 2 (.slice (some ⟨g, 0, none⟩) 1 1) 0]) /\ Box w' g VTy #[.int .i64 9, .int .i64 ((ia : Int) + 1), .string ⟨#[]⟩] /\ W.heap.size <= g /\ Bk A W w' := by
 obtain ⟨fv, hfv⟩ : ∃ fv : Vt, ((9, (ia : Int) + 1, ⟨#[]⟩) : Vt) = fv := ⟨_, rfl⟩
 obtain ⟨x, hx⟩ : ∃ x : Vt, ((9, (ts.length : Int) + 1, ⟨#[]⟩) : Vt) = x := ⟨_, rfl⟩
 have HA : Veil (A <= W.heap.size) := ⟨Nat.le_of_lt H.mm.alt⟩
 have HBX : Veil (Box W b 63 (objC 1 3 false (.pointer none) ev0)) := ⟨H.mem_b (List.mem_of_getElem? hat) rfl⟩
 obtain ⟨cb, hcb⟩ : ∃ cb, W.heap.size = cb := ⟨_, rfl⟩
 obtain ⟨rb, hrb⟩ : ∃ rb, cb + 1 = rb := ⟨_, rfl⟩
 obtain ⟨W0, hW0⟩ : ∃ W0, ((W.alloc (.cells #[.pointer (some ⟨fo, 0, none⟩), .int .i64 fv.1, .int .i64 fv.2.1, .string fv.2.2, args, .int .i64 tgt.1, .int .i64 tgt.2.1, .string tgt.2.2] CTy)).alloc (.cells #[.int .i64 0, .int .i64 0, .string ⟨#[]⟩] VTy)) = W0 := ⟨_, rfl⟩
 have bb : Below W.heap.size W W0 := by rw [<- hW0]; exact (((Below.refl _ _).alloc (Nat.le_refl _) _).alloc (by simp only [World.size_alloc]; omega) _)
 have xcb : Box W0 cb CTy #[.pointer (some ⟨fo, 0, none⟩), .int .i64 fv.1, .int .i64 fv.2.1, .string fv.2.2, args, .int .i64 tgt.1, .int .i64 tgt.2.1, .string tgt.2.2] := by have h9 := ((Box.new W CTy #[.pointer (some ⟨fo, 0, none⟩), .int .i64 fv.1, .int .i64 fv.2.1, .string fv.2.2, args, .int .i64 tgt.1, .int .i64 tgt.2.1, .string tgt.2.2]).more (.cells #[.int .i64 0, .int .i64 0, .string ⟨#[]⟩] VTy)); rw [hW0, hcb] at h9; exact h9
 have xrb : Box W0 rb VTy #[.int .i64 0, .int .i64 0, .string ⟨#[]⟩] := by have h9 := Box.new (W.alloc (.cells #[.pointer (some ⟨fo, 0, none⟩), .int .i64 fv.1, .int .i64 fv.2.1, .string fv.2.2, args, .int .i64 tgt.1, .int .i64 tgt.2.1, .string tgt.2.2] CTy)) VTy #[.int .i64 0, .int .i64 0, .string ⟨#[]⟩]; rw [hW0, show (W.alloc (.cells #[.pointer (some ⟨fo, 0, none⟩), .int .i64 fv.1, .int .i64 fv.2.1, .string fv.2.2, args, .int .i64 tgt.1, .int .i64 tgt.2.1, .string tgt.2.2] CTy)).heap.size = rb from by simp only [World.size_alloc]; omega] at h9; exact h9
 have HW0 := Veil.mk (And.intro hW0 (And.intro hcb (hrb)))
 have HBB := Veil.mk (And.intro bb (And.intro xcb (xrb)))
 have HLO : Veil (W.heap.size <= cb /\ W.heap.size <= rb) := ⟨by omega⟩
 clear hW0 bb hcb xcb hrb xrb
 have HOF : Veil (∀ w9, Below W.heap.size W w9 -> Calls Tryz.prog 14 #[.pointer (some ⟨h, 0, none⟩), valV fv] w9 fun e w' => e = .returned (.pointer (some ⟨b, 0, none⟩)) /\ Below w9.heap.size w9 w') := ⟨fun w9 hb => by rw [<- hfv]; exact (H.on hb).of_at hat rfl ⟨#[]⟩⟩
 have HCM : Veil (∀ w9, Below W.heap.size W w9 -> w9.cell? ⟨m, 0, none⟩ = some (.pointer (some ⟨h, 0, none⟩))) := ⟨fun w9 hb => (H.on hb).mm.mb.at_ 0⟩
 have HWK : Veil (∀ w9, Below W.heap.size W w9 -> Calls Tryz.prog 15 #[.pointer (some ⟨m, 0, none⟩), .int .i64 2, valV fv] w9 fun e w' => e = .returned (valV x) /\ ∃ o g, MP w' h A m f (ts ++ [TO.wkr o 2 (.slice (some ⟨g, 0, none⟩) 1 1) 0]) /\ Box w' g VTy #[.int .i64 fv.1, .int .i64 fv.2.1, .string fv.2.2] /\ w9.heap.size <= g /\ Bk A w9 w') := ⟨fun w9 hb => by rw [<- hx]; exact (H.on hb).walker hf hl 2 fv⟩
 have HFV := Veil.mk hfv
 rw [hfv, hx]
 clear H hfv hat hx
 go_enter Tryz.func348, Tryz.ntmps348
 go_upto_region 1 with (fail)
 rw [HW0.out.1, HW0.out.2.1, HW0.out.2.2]
 go_upto_region 14 with (fail)
 obtain ⟨WD, hWD⟩ : ∃ WD, W0.drew = WD := ⟨_, rfl⟩
 have HBF : Veil (Below W.heap.size W WD) := ⟨by rw [<- hWD]; exact HBB.out.1.drew⟩
 have HXcb : Veil (Box WD cb CTy #[.pointer (some ⟨fo, 0, none⟩), .int .i64 fv.1, .int .i64 fv.2.1, .string fv.2.2, args, .int .i64 tgt.1, .int .i64 tgt.2.1, .string tgt.2.2]) := ⟨by rw [<- hWD]; exact HBB.out.2.1.drew⟩
 have HXrb : Veil (Box WD rb VTy #[.int .i64 0, .int .i64 0, .string ⟨#[]⟩]) := ⟨by rw [<- hWD]; exact HBB.out.2.2.drew⟩
 have HWD := Veil.mk hWD
 clear hWD HBB
 have HC0 : Veil (WD.cell? ⟨m, 0, none⟩ = some (.pointer (some ⟨h, 0, none⟩))) := ⟨HCM.out WD HBF.out⟩
 clear HW0
 refine wp_region_chain (some (· = .pointer (some ⟨m, 0, none⟩)) :: some (· = .pointer (some ⟨m, 0, none⟩)) :: some (· = .pointer (some ⟨m, 0, none⟩)) :: some (· = .pointer (some ⟨h, 0, none⟩)) :: some (· = .pointer (some ⟨cb, 1, none⟩)) :: some (· = valV fv) :: some (· = .pointer (some ⟨b, 0, none⟩)) :: some (· = .pointer (some ⟨b, 0, none⟩)) :: [] : List (Option (Value -> Prop))) (LPh [6] (SqSt WD [Below WD.heap.size WD])) [some 50, some 51, some 52, some 53, some 54, some 55, some 56, some 8] (curV' _ [some 50, some 51, some 52, some 53, some 54, some 55, some 56, some 8]) (by kernel_rfl) rfl rfl (puts_cur _ _) (LPh.start (show W0.drew = WD from HWD.out)) ?_ (by kernel_rfl) ?_
 ·refine SV rfl (fun _ _ _ _ _ S => ?_) ?_
  ·obtain ⟨_, _, _, _, _, _, _, _, rfl⟩ := lenA8 S.hu
   rw [pin S.ha]
   go_simp
   exact S.kL 0 rfl rfl rfl rfl
  refine SV rfl (fun _ _ _ _ _ S => ?_) ?_
  ·obtain ⟨u0, _, _, _, _, _, _, _, rfl⟩ := lenA8 S.hu
   obtain rfl : u0 = _ := S.q 0 rfl
   rw [pin S.ha]
   go_simp
   exact S.kL 1 rfl rfl rfl rfl
  refine SV rfl (fun _ _ _ _ _ S => ?_) ?_
  ·obtain ⟨_, u1, _, _, _, _, _, _, rfl⟩ := lenA8 S.hu
   obtain rfl : u1 = _ := S.q 1 rfl
   rw [pin S.ha]
   go_simp
   exact S.kL 2 rfl rfl rfl rfl
  refine SV rfl (fun _ _ w' _ _ S => ?_) ?_
  ·obtain ⟨_, _, u2, _, _, _, _, _, rfl⟩ := lenA8 S.hu
   obtain rfl : u2 = _ := S.q 2 rfl
   have gb := (S.hI.bwd [3] 6 3 (by kernel_rfl) rfl S.h0)
   have hst := S.hI.ph.btw1 0 (.inl rfl) (.inr ⟨6, rfl, gb⟩)
   have hst' : WD = w' := (show w' = WD from hst).symm
   clear hst
   subst hst'
   have c0 := HC0.out
   clear gb
   rw [pin S.ha]
   go_simp
   exact S.kL 3 rfl rfl rfl rfl
  refine SV rfl (fun _ _ _ _ _ S => ?_) ?_
  ·obtain ⟨_, _, _, _, _, _, _, _, rfl⟩ := lenA8 S.hu
   rw [pin S.ha]
   go_simp
   exact S.kL 4 rfl rfl rfl rfl
  refine SV rfl (fun _ _ w' _ _ S => ?_) ?_
  ·obtain ⟨_, _, _, _, u4, _, _, _, rfl⟩ := lenA8 S.hu
   obtain rfl : u4 = _ := S.q 4 rfl
   have gb := (S.hI.bwd [5] 6 5 (by kernel_rfl) rfl S.h0)
   have hst := S.hI.ph.btw1 0 (.inl rfl) (.inr ⟨6, rfl, gb⟩)
   have hst' : WD = w' := (show w' = WD from hst).symm
   clear hst
   subst hst'
   have c1 : WD.cell? ⟨cb, 1, none⟩ = some (.int .i64 fv.1) := HXcb.out.at_ 1
   have c2 : WD.cell? ⟨cb, 2, none⟩ = some (.int .i64 fv.2.1) := HXcb.out.at_ 2
   have c3 : WD.cell? ⟨cb, 3, none⟩ = some (.string fv.2.2) := HXcb.out.at_ 3
   clear gb
   rw [pin S.ha]
   go_simp
   exact S.kL 5 rfl rfl rfl rfl
  refine SV rfl (fun _ _ w' _ _ S => ?_) ?_
  ·obtain ⟨_, _, _, u3, _, u5, _, _, rfl⟩ := lenA8 S.hu
   obtain rfl : u3 = _ := S.q 3 rfl
   obtain rfl : u5 = _ := S.q 5 rfl
   have gb := S.h0
   have hst := S.hI.ph.btw1 0 (.inl rfl) (.inr ⟨6, rfl, gb⟩)
   have hst' : WD = w' := (show w' = WD from hst).symm
   clear hst
   subst hst'
   clear gb
   rw [pin S.ha]
   go_simp
   go_at_call 14
   refine (HOF.out WD HBF.out).mono ?_
   rintro e9 w9 ⟨rfl, hm9⟩
   go_simp
   exact S.kS 6 _ rfl rfl rfl rfl (S.hI.ph.next 0 6 _ rfl S.h0 (.inl rfl) (by decide) (hm9))
  refine SV rfl (fun _ _ _ _ _ S => ?_) ?_
  ·obtain ⟨_, _, _, _, _, _, u6, _, rfl⟩ := lenA8 S.hu
   obtain rfl : u6 = _ := S.q 6 rfl
   rw [pin S.ha]
   go_simp
   exact S.kL 7 rfl rfl rfl rfl
  exact Steps.nil
 ·intro us wE hus dd hD2 hJ
  obtain ⟨p0, p1, p2, p3, p4, p5, p6, p7, rfl⟩ := lenA8 hus
  have q1 := hJ.ph.all (fun c hc => hD2 c (by
   have : c = 6 := by simpa using hc
   show c < 8
   omega))
  obtain rfl : p0 = _ := hJ.vq 0 rfl rfl hD2
  obtain rfl : p1 = _ := hJ.vq 1 rfl rfl hD2
  obtain rfl : p2 = _ := hJ.vq 2 rfl rfl hD2
  obtain rfl : p3 = _ := hJ.vq 3 rfl rfl hD2
  obtain rfl : p4 = _ := hJ.vq 4 rfl rfl hD2
  obtain rfl : p5 = _ := hJ.vq 5 rfl rfl hD2
  obtain rfl : p6 = _ := hJ.vq 6 rfl rfl hD2
  obtain rfl : p7 = _ := hJ.vq 7 rfl rfl hD2
  clear hJ hD2
  have HQ := Veil.mk (show Below WD.heap.size WD wE from q1)
  clear q1
  simp only [puts, setAll, List.setIfInBounds_toArray, List.set_cons_zero, List.set_cons_succ]
  have hbE := HBF.out.trans (HQ.out.mono HBF.out.size)
  have bcb := HXcb.out.below HQ.out
  have brb := HXrb.out.below HQ.out
  have d0 : wE.cell? ⟨b, 0, none⟩ = some (.int .i64 1) := (HBX.out.below hbE).at_ 0
  have c1 : wE.cell? ⟨cb, 1, none⟩ = some (.int .i64 fv.1) := bcb.at_ 1
  have c2 : wE.cell? ⟨cb, 2, none⟩ = some (.int .i64 fv.2.1) := bcb.at_ 2
  have c3 : wE.cell? ⟨cb, 3, none⟩ = some (.string fv.2.2) := bcb.at_ 3
  have HWC := Veil.mk (HWK.out wE hbE)
  have HRB := Veil.mk (And.intro brb hbE)
  clear hbE bcb brb HQ HC0 HWD HOF HCM HBX HXcb HXrb
  go_wp2_with (go_at_call 15; ((with_reducible refine HWC.out.mono ?_); rintro e w6 ⟨rfl, o, g, h1, h2, h3, h4⟩; have HR6 := Veil.mk (And.intro (h4.boxE HRB.out.1 (by decide)) (And.intro h1 (And.intro h2 (And.intro h3 h4)))); clear h1 h2 h3 h4; have z0 : w6.cell? ⟨rb, 0, none⟩ = some (.int .i64 0) := HR6.out.1.at_ 0; have z1 : w6.cell? ⟨rb, 1, none⟩ = some (.int .i64 0) := HR6.out.1.at_ 1; have z2 : w6.cell? ⟨rb, 2, none⟩ = some (.string ⟨#[]⟩) := HR6.out.1.at_ 2; have q0 := HR6.out.1.free 0; have q1 := HR6.out.1.free 1; have q2 := HR6.out.1.free 2))
  have hr3 := ((HR6.out.1.put 0 (.int .i64 x.1)).put 1 (.int .i64 x.2.1)).put 2 (.string x.2.2)
  have y0 := hr3.at_ 0
  have y1 := hr3.at_ 1
  have y2 := hr3.at_ 2
  have hp3 := ((HR6.out.2.1.putv HR6.out.1.lab 0 (.int .i64 x.1)).putv (HR6.out.1.put 0 _).lab 1 (.int .i64 x.2.1)).putv ((HR6.out.1.put 0 _).put 1 _).lab 2 (.string x.2.2)
  have hgr : g ≠ rb := by have h1 := HR6.out.2.2.2.1; have h2 := HRB.out.1.lt; omega
  have hg3 := HR6.out.2.2.1.touch (touch3 w6 rb (.int .i64 x.1) (.int .i64 x.2.1) (.string x.2.2)) hgr
  have hk3 := (((((Bk.of_below HA.out HRB.out.2).trans HR6.out.2.2.2.2).setv HLO.out.2 HA.out 0 (.int .i64 x.1)).setv HLO.out.2 HA.out 1 (.int .i64 x.2.1)).setv HLO.out.2 HA.out 2 (.string x.2.2))
  have hgW : W.heap.size <= g := Nat.le_trans HRB.out.2.size HR6.out.2.2.2.1
  rw [<- HFV.out] at hg3
  exact bodyPost_ret (v := (.tuple #[valV x, .int .i64 0])) (by simp [results, Tryz.results348, go_sem, y0, y1, y2]) rfl ⟨rfl, o, g, hp3, hg3, hgW, hk3⟩
end
structure StP (B0 : Nat) (P : (Nat -> Prop) -> World -> Prop) : Prop where
 on : ∀ {E W W'}, P E W -> Below W.heap.size W W' -> P E W'
 excl : ∀ {E W} {E' : Nat -> Prop}, P E W -> (∀ k, E' k -> E k \/ W.heap.size <= k) -> P E' W
 put : ∀ {E W b}, P E W -> Lab W b VTy -> E b -> B0 <= b -> ∀ i u, P E (W.setCell ⟨b, i, none⟩ u)
section
variable {W : World} {B0 m : Nat} {E : Nat -> Prop} {P Q : (Nat -> Prop) -> World -> Prop}
set_option maxRecDepth 100000 in
set_option maxHeartbeats 16000000 in
theorem ask_gen (SP : StP B0 P) (SQ : StP B0 Q) (H : P E W) (hB : B0 <= W.heap.size) (hE : ∀ k, E k -> k < W.heap.size) (fv fn x : Vt) (en : Int) (nm : ByteArray) (args : Value)
  (HM : ∀ w9, Below W.heap.size W w9 -> Calls Tryz.prog 21 #[.pointer (some ⟨m, 0, none⟩), valV fv, .string nm] w9 fun e w' => e = .returned (.tuple #[valV fn, .int .i64 0]) /\ Below w9.heap.size w9 w')
  (HC : ∀ w9 E', P E' w9 -> (∀ k, E' k -> k < w9.heap.size) -> (∀ k, E k -> E' k) -> Below W.heap.size W w9 -> Calls Tryz.prog 28 #[.pointer (some ⟨m, 0, none⟩), valV fn, valV fv, args] w9 fun e w' => e = .returned (.tuple #[valV x, .int .i64 en]) /\ Q E' w' /\ (∀ b t c, t ∈ kvL -> E' b -> Box w9 b t c -> Box w' b t c) /\ w9.heap.size <= w'.heap.size) :
  Calls Tryz.prog 20 #[.pointer (some ⟨m, 0, none⟩), valV fv, .string nm, args] W fun e w' => e = .returned (.tuple #[valV x, .int .i64 en]) /\ Q E w' /\ (∀ b t c, t ∈ kvL -> E b -> Box W b t c -> Box w' b t c) /\ W.heap.size <= w'.heap.size := by
 obtain ⟨vb, hvb⟩ : ∃ vb, W.heap.size = vb := ⟨_, rfl⟩
 obtain ⟨rb, hrb⟩ : ∃ rb, vb + 1 = rb := ⟨_, rfl⟩
 obtain ⟨W0, hW0⟩ : ∃ W0, ((W.alloc (.cells #[.int .i64 fv.1, .int .i64 fv.2.1, .string fv.2.2] 28)).alloc (.cells #[.int .i64 0, .int .i64 0, .string ⟨#[]⟩] 28)) = W0 := ⟨_, rfl⟩
 have bb : Below W.heap.size W W0 := by rw [<- hW0]; exact (((Below.refl _ _).alloc (Nat.le_refl _) _).alloc (by simp only [World.size_alloc]; omega) _)
 have xvb : Box W0 vb 28 #[.int .i64 fv.1, .int .i64 fv.2.1, .string fv.2.2] := by have h9 := ((Box.new W 28 #[.int .i64 fv.1, .int .i64 fv.2.1, .string fv.2.2]).more (.cells #[.int .i64 0, .int .i64 0, .string ⟨#[]⟩] 28)); rw [hW0, hvb] at h9; exact h9
 have xrb : Box W0 rb 28 #[.int .i64 0, .int .i64 0, .string ⟨#[]⟩] := by have h9 := Box.new (W.alloc (.cells #[.int .i64 fv.1, .int .i64 fv.2.1, .string fv.2.2] 28)) 28 #[.int .i64 0, .int .i64 0, .string ⟨#[]⟩]; rw [hW0, show (W.alloc (.cells #[.int .i64 fv.1, .int .i64 fv.2.1, .string fv.2.2] 28)).heap.size = rb from by simp only [World.size_alloc]; omega] at h9; exact h9
 have HW0 := Veil.mk (And.intro hW0 (And.intro hvb (hrb)))
 have HBB := Veil.mk (And.intro bb (And.intro xvb (xrb)))
 have HLO : Veil (W.heap.size <= vb /\ W.heap.size <= rb) := ⟨by omega⟩
 clear hW0 bb hvb xvb hrb xrb
 have HS0 : Veil (P (fun k => E k \/ k = vb \/ k = rb) W0) := ⟨SP.on (SP.excl H (fun k hk => hk.elim (fun h => .inl h) (fun h => .inr (by rcases h with rfl | rfl; exact HLO.out.1; exact HLO.out.2)))) HBB.out.1⟩
 have HMB : Veil (∀ w9, Below W0.heap.size W0 w9 -> Calls Tryz.prog 21 #[.pointer (some ⟨m, 0, none⟩), valV fv, .string nm] w9 fun e w' => e = .returned (.tuple #[valV fn, .int .i64 0]) /\ Below w9.heap.size w9 w') := ⟨fun w9 hb => HM w9 (HBB.out.1.trans (hb.mono HBB.out.1.size))⟩
 have HCL : Veil (∀ w9, Below W0.heap.size W0 w9 -> Calls Tryz.prog 28 #[.pointer (some ⟨m, 0, none⟩), valV fn, valV fv, args] w9 fun e w' => e = .returned (.tuple #[valV x, .int .i64 en]) /\ Q (fun k => E k \/ k = vb \/ k = rb) w' /\ (∀ b t c, t ∈ kvL -> (E b \/ b = vb \/ b = rb) -> Box w9 b t c -> Box w' b t c) /\ w9.heap.size <= w'.heap.size) := ⟨fun w9 hb => HC w9 _ (SP.on HS0.out hb) (fun k hk => by
   have h1 := HBB.out.1.size
   have h2 := hb.size
   have h3 := HBB.out.2.1.lt
   have h4 := HBB.out.2.2.lt
   rcases hk with h9 | h9 | h9
   ·have := hE k h9; omega
   ·omega
   ·omega) (fun k hk => .inl hk) (HBB.out.1.trans (hb.mono HBB.out.1.size))⟩
 have HEE := Veil.mk (And.intro hE hB)
 have HSQ := Veil.mk SQ
 have c0 : W0.cell? ⟨vb, 0, none⟩ = some (.int .i64 fv.1) := HBB.out.2.1.at_ 0
 have c1 : W0.cell? ⟨vb, 1, none⟩ = some (.int .i64 fv.2.1) := HBB.out.2.1.at_ 1
 have c2 : W0.cell? ⟨vb, 2, none⟩ = some (.string fv.2.2) := HBB.out.2.1.at_ 2
 clear H SP SQ hE hB HM HC HS0
 go_enter Tryz.func20, Tryz.ntmps20
 go_upto_region 1 with (fail)
 rw [HW0.out.1, HW0.out.2.1, HW0.out.2.2]
 have HM0 := Veil.mk (HMB.out W0 (Below.refl _ _))
 go_upto_region 2 with (go_at_call 21; ((with_reducible refine HM0.out.mono ?_); rintro e w1 ⟨rfl, hb1⟩; have HB1 := Veil.mk hb1; clear hb1))
 obtain ⟨fb, hfb⟩ : ∃ fb, w1.heap.size = fb := ⟨_, rfl⟩
 obtain ⟨w2, hw2⟩ : ∃ w2, w1.alloc (.cells #[.int .i64 fn.1, .int .i64 fn.2.1, .string fn.2.2] 28) = w2 := ⟨_, rfl⟩
 have bx := Box.new w1 28 #[.int .i64 fn.1, .int .i64 fn.2.1, .string fn.2.2]
 have bl : Below w1.heap.size w1 (w1.alloc (.cells #[.int .i64 fn.1, .int .i64 fn.2.1, .string fn.2.2] 28)) := (Below.refl _ _).alloc (Nat.le_refl _) _
 rw [hw2] at bx bl ⊢
 rw [hfb] at bx ⊢
 have HB2 := Veil.mk (blw2 HB1.out bl)
 have HX2 := Veil.mk bx
 clear c0 c1 c2 bx bl hw2 hfb HM0 HB1 HMB
 have hv2 := HBB.out.2.1.below HB2.out
 have c0 : w2.cell? ⟨vb, 0, none⟩ = some (.int .i64 fv.1) := hv2.at_ 0
 have c1 : w2.cell? ⟨vb, 1, none⟩ = some (.int .i64 fv.2.1) := hv2.at_ 1
 have c2 : w2.cell? ⟨vb, 2, none⟩ = some (.string fv.2.2) := hv2.at_ 2
 have d0 : w2.cell? ⟨fb, 0, none⟩ = some (.int .i64 fn.1) := HX2.out.at_ 0
 have d1 : w2.cell? ⟨fb, 1, none⟩ = some (.int .i64 fn.2.1) := HX2.out.at_ 1
 have d2 : w2.cell? ⟨fb, 2, none⟩ = some (.string fn.2.2) := HX2.out.at_ 2
 have HC2 := Veil.mk (HCL.out w2 HB2.out)
 clear hv2 HCL
 go_wp2_with (go_at_call 28; ((with_reducible refine HC2.out.mono ?_); rintro e w6 ⟨rfl, hls, hbx, hsz⟩; have HR6 := Veil.mk (And.intro (hbx rb _ _ (by decide) (.inr (.inr rfl)) (HBB.out.2.2.below HB2.out)) (And.intro hls (And.intro hbx hsz))); clear hls hbx hsz; have z0 : w6.cell? ⟨rb, 0, none⟩ = some (.int .i64 0) := HR6.out.1.at_ 0; have z1 : w6.cell? ⟨rb, 1, none⟩ = some (.int .i64 0) := HR6.out.1.at_ 1; have z2 : w6.cell? ⟨rb, 2, none⟩ = some (.string ⟨#[]⟩) := HR6.out.1.at_ 2; have q0 := HR6.out.1.free 0; have q1 := HR6.out.1.free 1; have q2 := HR6.out.1.free 2))
 have hr3 := ((HR6.out.1.put 0 (.int .i64 x.1)).put 1 (.int .i64 x.2.1)).put 2 (.string x.2.2)
 have y0 := hr3.at_ 0
 have y1 := hr3.at_ 1
 have y2 := hr3.at_ 2
 have hwr : B0 <= rb := Nat.le_trans HEE.out.2 HLO.out.2
 have hp3 := HSQ.out.put (HSQ.out.put (HSQ.out.put HR6.out.2.1 HR6.out.1.lab (.inr (.inr rfl)) hwr 0 (.int .i64 x.1)) (HR6.out.1.put 0 _).lab (.inr (.inr rfl)) hwr 1 (.int .i64 x.2.1)) ((HR6.out.1.put 0 _).put 1 _).lab (.inr (.inr rfl)) hwr 2 (.string x.2.2)
 refine bodyPost_ret (v := (.tuple #[valV x, .int .i64 en])) (by simp [results, Tryz.results20, go_sem, y0, y1, y2]) rfl ⟨rfl, HSQ.out.excl hp3 (fun k hk => .inl (.inl hk)), fun b t c hT hg hx => ?_, ?_⟩
 ·have hne : b ≠ rb := fun e => by
   have h1 := HEE.out.1 b hg
   have h2 := HLO.out.2
   omega
  have h6 := HR6.out.2.2.1 b t c hT (.inl hg) ((hx.below HBB.out.1).below HB2.out)
  exact ((h6.touch (Touch.put (S := fun k => k = rb) rfl 0 (.int .i64 x.1)) hne).touch (Touch.put (S := fun k => k = rb) rfl 1 (.int .i64 x.2.1)) hne).touch (Touch.put (S := fun k => k = rb) rfl 2 (.string x.2.2)) hne
 ·simp only [World.size_setCell]
  have h1 := HBB.out.1.size
  have h2 := HB2.out.size
  have h3 := HR6.out.2.2.2
  omega
end
section
variable {w W W' : World} {h A m ia b n n' : Nat} {ts : List TO} {E : Nat -> Prop} {xs ys : Nat -> Vt} {st st' : Int}
def LT (w : World) (h A m ia b n : Nat) (xs : Nat -> Vt) (st : Int) (T : List TO -> Prop) (E : Nat -> Prop) (w' : World) : Prop := ∃ ts, T ts /\ LS w h A m ts ia b n xs st E w'
theorem LT.cl {T : List TO -> Prop} : StP w.heap.size (LT w h A m ia b n xs st T) :=
 ⟨fun ⟨ts, a, b⟩ hb => ⟨ts, a, b.on hb⟩, fun ⟨ts, a, b⟩ hE => ⟨ts, a, b.excl hE⟩, fun ⟨ts, a, b⟩ hl hg hn i u => ⟨ts, a, b.put hl hg hn i u⟩⟩
set_option maxHeartbeats 2000000 in
theorem LS.callT (H : LS w h A m ts ia b n xs st E W) (L : LawT ts ia) (hE : ∀ k, E k -> k < W.heap.size) (hs0 : 0 <= st) (hs1 : st < 4194304) (jf : Nat) (hjf : jf < 15) (tv : Vt) (args : Value) (l : List Vt) (hr : RowV W args l) (hl : l.length <= 1000) (hgE : ∀ k, args.ownBlock = some k -> E k) (x : Vt) (en : Int) (T : List TO -> Prop)
  (HD : ∀ W1 f1 V0 fo, Below w.heap.size w W1 -> AS W1 h A m f1 ts ia b V0 n xs (fun _ => False) W1 -> f1.ov = false -> f1.st = st + 1 -> (∀ k, f1 k = mfW k) -> (∀ b t c, t ∈ kvL -> E b -> Box W b t c -> Box W1 b t c /\ ¬ V0 b) -> RowV W1 args l -> (∀ k, args.ownBlock = some k -> ¬ V0 k) -> Calls Tryz.prog 348 #[.pointer (some ⟨m, 0, none⟩), .int .i64 (150 + (jf : Int)), callV fo tv args (0, 0, ⟨#[]⟩)] W1 fun e w' => e = .returned (.tuple #[valV x, .int .i64 en]) /\ ∃ ts1, T ts1 /\ AS W1 h A m { f1 with st := st' } ts1 ia b V0 n' ys (fun _ => False) w') :
  Calls Tryz.prog 28 #[.pointer (some ⟨m, 0, none⟩), valV (9, 23 + (jf : Int), ⟨#[]⟩), valV tv, args] W fun e w' => e = .returned (.tuple #[valV x, .int .i64 en]) /\ LT w h A m ia b n' ys st' T E w' /\ (∀ b t c, t ∈ kvL -> E b -> Box W b t c -> Box w' b t c) /\ W.heap.size <= w'.heap.size := by
 obtain ⟨ev, na, ca, xs0, h1, h2, h3, h4, h5, h6⟩ := H.x
 obtain ⟨t, ht, c1, c2, c3⟩ := L.fn jf hjf
 have hge := L.ge
 have hA := Nat.le_of_lt h1.mm.alt
 have ht' : (ts.set ia (TO.arr b 3 ev))[22 + jf]? = some t := by rw [List.getElem?_set_ne (by omega)]; exact ht
 obtain ⟨ao, cap, hag, -⟩ := id hr
 have hR : RStay A (fun D ts2 st2 w9 => ∃ ts1 ev' xs', T ts1 /\ ts2 = ts1.set ia (TO.arr b 3 ev') /\ EL w9 A ev' n' xs' /\ (∀ j, j < n' -> xs' j = ys j) /\ st2 = st' /\ ∀ k, ev'.ownBlock = some k -> D k) := fun D ts2 st2 w1 w2 V' hq hbv hn => by
  obtain ⟨ts1, ev', xs', e0, e1, e2, e3, e4, e5⟩ := hq
  exact ⟨ts1, ev', xs', e0, e1, e2.bv hbv (fun k hk => hn k (e5 k hk)), e3, e4, e5⟩
 have key := h1.call h4 rfl hs0 hs1 (by show (0 : Int) <= 0; decide) (by show (0 : Int) < 20; decide) (by rw [List.length_set]; exact L.len) ht' c1 (decide (jf = 0)) c2 (150 + (jf : Int)) c3 tv x en args ao l.length cap hag (by omega) (fun k => ev.ownBlock = some k) (fun k hk => ⟨(h2.own_lt k hk).2.1, (h5 k hk).1⟩) _ hR ⟨fun W1 f1 g1 g2 g3 g4 => by
  obtain ⟨na1, ca1, hf1⟩ := g2
  have hA1 := Nat.le_of_lt g1.mm.alt
  have has : AS W1 h A m f1 ts ia b (fun k => ev.ownBlock = some k) n xs (fun _ => False) W1 := ⟨ev, xs0, g1, h2.bv g3 (fun k hk => (h5 k hk).1), h3, (Bk.of_below hA1 (Below.refl _ _)).bv _, fun k hk => ⟨.inl hk, fun h => h⟩⟩
  refine (HD W1 f1 _ t.b (H.bel.trans (g3.bel.mono H.lo)) has (by rw [hf1]) (by rw [hf1]) (fun k => by rw [hf1]) (fun b t c hT hg hbx => ⟨g3.box hbx hT (fun h9 => h6 b h9 hg), fun h9 => (h5 b h9).2 hg⟩) (g3.row hr (fun k hk h9 => h6 k h9 (hgE k hk))) (fun k hk h9 => (h5 k h9).2 (hgE k hk))).mono ?_
  rintro e w9 ⟨he, ts1, hT, hq⟩
  obtain ⟨ev', xs', q1, q2, q3, q4, q5⟩ := hq.x
  exact ⟨he, _, _, fun k => ev'.ownBlock = some k, q1, q4, ⟨ts1, ev', xs', hT, rfl, q2, q3, rfl, fun k hk => hk⟩, fun k hk => ⟨(q2.own_lt k hk).2.1, fun h => h, (q5 k hk).1⟩⟩⟩
 rw [show ((22 + jf : Nat) : Int) + 1 = 23 + (jf : Int) by omega] at key
 refine key.mono ?_
 rintro e w9 ⟨he, hq⟩
 obtain ⟨ts2, st2, D, f2, q1, ⟨na2, ca2, q2⟩, q3, q4, q5, ⟨ts1, ev', xs', r0, r1, r2, r3, r4, r5⟩, q7⟩ := hq.x
 subst r1 r4 q2
 refine ⟨he, ⟨ts1, r0, ⟨ev', na2, ca2, xs', q1, r2, r3, q3, fun k hk => ⟨(q7 k (r5 k hk)).2.1, fun h9 => ?_⟩, fun k hk h9 => ?_⟩, H.bel.trans (q5.bel.mono H.lo), H.lo⟩, fun b t c hT hg hbx => q5.box hbx hT (fun h9 => h9.elim (fun h8 => (h5 b h8).2 hg) (fun h8 => h6 b h8 hg)), q5.bel.size⟩
 ·rcases (q7 k (r5 k hk)).2.2.2 with h8 | h8
  ·exact (h5 k h8).2 h9
  ·have := hE k h9
   omega
 ·rcases (q4 k hk).1 with h8 | h8
  ·exact h6 k h8 h9
  ·have := hE k h9
   omega
end
end Go.Proofs.YtahkohfppakaiaaGreatDoor
namespace Go.Proofs.YtahkohfppakaiaaGreatDoor
open Go Go.RowKit
section
variable {h A m g iw ia o b i n : Nat} {ts : List TO} {kd : Int} {xs : Nat -> Vt}
theorem nxa_more (L : LawW ts iw o kd (.slice (some ⟨g, 0, none⟩) 1 1) (i : Int)) (hkd : kd = 2 \/ kd = 3) (hl : ts.length < 99999) {ev : Value} (hpa : ts[ia]? = some (TO.arr b 3 ev)) (hne : iw ≠ ia) (hn9 : n <= 1000000) (hi9 : i <= 1000000) (hin : i < n) (hx : (xs i).1 ≠ 10)
  (W1 : World) (f1 : MF) (fo : Nat) (H : MP W1 h A m f1 ts) (hf : f1 0 = 1) (hel : EL W1 A ev n xs) (hg : Box W1 g VTy #[.int .i64 9, .int .i64 ((ia : Int) + 1), .string ⟨#[]⟩]) :
  Calls Tryz.prog 348 #[.pointer (some ⟨m, 0, none⟩), .int .i64 164, callV fo (9, (iw : Int) + 1, ⟨#[]⟩) (.slice none 0 0) (0, 0, ⟨#[]⟩)] W1 fun e w' => e = .returned (.tuple #[valV (9, (ts.length : Int) + 1, ⟨#[]⟩), .int .i64 0]) /\ ∃ ts1, (∃ ob pv F, ts1 = ts.set iw (TO.wkr o kd (.slice (some ⟨g, 0, none⟩) 1 1) ((i : Int) + 1)) ++ [(⟨ob, 0, 1, pv, .slice none 0 0, .nilIface, kd0, F, [(kVal, (xs i), 7), (kDone, tvV false, 7)]⟩ : TO)]) /\ MP w' h A m f1 ts1 /\ Bk A W1 w' := by
 refine do_next (Nat.le_of_lt H.mm.alt) (fun ts1 => ∃ ob pv F, ts1 = ts.set iw (TO.wkr o kd (.slice (some ⟨g, 0, none⟩) 1 1) ((i : Int) + 1)) ++ [(⟨ob, 0, 1, pv, .slice none 0 0, .nilIface, kd0, F, [(kVal, (xs i), 7), (kDone, tvV false, 7)]⟩ : TO)]) fo (9, (iw : Int) + 1, ⟨#[]⟩) (0, 0, ⟨#[]⟩) _ 0 _ ⟨fun w' hb => ?_⟩
 have H1 := H.on hb
 have hlt := (List.getElem?_eq_some_iff.1 L.wk).1
 have key := H1.next_more (ts1 := ts.set iw (TO.wkr o kd (.slice (some ⟨g, 0, none⟩) 1 1) ((i : Int) + 1))) hf (3, (i : Int), ⟨#[]⟩) (xs i) hkd L.wk (List.getElem?_set_self hlt) (by rw [List.length_set]; exact hl) ⟨fun w2 hb2 => (H1.on hb2).adv_arr L.wk hpa hne ((hg.below hb).below hb2) ((hel.on hb).on hb2) hn9 hi9 hin hx⟩
 rw [List.length_set] at key
 refine key.mono ?_
 rintro e w9 ⟨he, ob, pv, F, h1, h2⟩
 exact ⟨he, _, ⟨ob, pv, F, rfl⟩, h1, h2⟩
theorem nxa_end (L : LawW ts iw o kd (.slice (some ⟨g, 0, none⟩) 1 1) (i : Int)) (hkd : kd = 2 \/ kd = 3) (hl : ts.length < 99999) {ev : Value} (hpa : ts[ia]? = some (TO.arr b 3 ev)) (hne : iw ≠ ia) (hn9 : n <= 1000000) (hi9 : i <= 1000000) (hin : n <= i)
  (W1 : World) (f1 : MF) (fo : Nat) (H : MP W1 h A m f1 ts) (hf : f1 0 = 1) (hel : EL W1 A ev n xs) (hg : Box W1 g VTy #[.int .i64 9, .int .i64 ((ia : Int) + 1), .string ⟨#[]⟩]) :
  Calls Tryz.prog 348 #[.pointer (some ⟨m, 0, none⟩), .int .i64 164, callV fo (9, (iw : Int) + 1, ⟨#[]⟩) (.slice none 0 0) (0, 0, ⟨#[]⟩)] W1 fun e w' => e = .returned (.tuple #[valV (9, (ts.length : Int) + 1, ⟨#[]⟩), .int .i64 0]) /\ ∃ ts1, (∃ ob pv F, ts1 = ts.set iw (TO.wkr o kd (.slice none 0 0) (i : Int)) ++ [(⟨ob, 0, 1, pv, .slice none 0 0, .nilIface, kd0, F, [(kVal, zV, 7), (kDone, tvV true, 7)]⟩ : TO)]) /\ MP w' h A m f1 ts1 /\ Bk A W1 w' := by
 refine do_next (Nat.le_of_lt H.mm.alt) (fun ts1 => ∃ ob pv F, ts1 = ts.set iw (TO.wkr o kd (.slice none 0 0) (i : Int)) ++ [(⟨ob, 0, 1, pv, .slice none 0 0, .nilIface, kd0, F, [(kVal, zV, 7), (kDone, tvV true, 7)]⟩ : TO)]) fo (9, (iw : Int) + 1, ⟨#[]⟩) (0, 0, ⟨#[]⟩) _ 0 _ ⟨fun w' hb => ?_⟩
 have H1 := H.on hb
 have hlt := (List.getElem?_eq_some_iff.1 L.wk).1
 have key := H1.next_end (ts1 := ts.set iw (TO.wkr o kd (.slice none 0 0) (i : Int))) hf zV zV hkd L.wk (List.getElem?_set_self hlt) (by rw [List.length_set]; exact hl) ⟨fun w2 hb2 => (H1.on hb2).adv_arr_end L.wk hpa hne ((hg.below hb).below hb2) ((hel.on hb).on hb2) hn9 hi9 hin⟩
 rw [List.length_set] at key
 refine key.mono ?_
 rintro e w9 ⟨he, ob, pv, F, h1, h2⟩
 exact ⟨he, _, ⟨ob, pv, F, rfl⟩, h1, h2⟩
end
section
variable {w W W' : World} {h A m g iw ia o b i n : Nat} {ts : List TO} {E : Nat -> Prop} {xs : Nat -> Vt} {st kd at_ : Int} {sl : Value}
theorem LawW.setA (L : LawW ts iw o kd sl at_) (t : TO) (hia : 37 <= ia) (hne : iw ≠ ia) : LawW (ts.set ia t) iw o kd sl at_ := by
 obtain ⟨t0, a1, a2⟩ := L.p0
 obtain ⟨t1, h1, h2⟩ := L.p11
 obtain ⟨t3, h3, h4⟩ := L.fn
 exact ⟨by rw [List.getElem?_set_ne (Ne.symm hne)]; exact L.wk, L.ge, ⟨t0, by rw [List.getElem?_set_ne (by omega)]; exact a1, a2⟩, ⟨t1, by rw [List.getElem?_set_ne (by omega)]; exact h1, h2⟩, ⟨t3, by rw [List.getElem?_set_ne (by omega)]; exact h3, h4⟩⟩
theorem LawT.more (L : LawT ts ia) (t : TO) (hl : ts.length < 99999) : LawT (ts ++ [t]) ia := by
 have key : ∀ (k : Nat) u, ts[k]? = some u -> (ts ++ [t])[k]? = some u := fun k u hu => by
  rw [List.getElem?_append_left (List.getElem?_eq_some_iff.1 hu).1]
  exact hu
 obtain ⟨t2, a1, a2⟩ := L.p2
 refine ⟨by rw [List.length_append]; show ts.length + 1 < 100000; omega, by rw [List.length_append]; have := L.lt; omega, L.ge, ⟨t2, key _ _ a1, a2⟩, fun j hj => ?_⟩
 obtain ⟨t9, b1, b2⟩ := L.fn j hj
 exact ⟨t9, key _ _ b1, b2⟩
theorem LawT.setW (L : LawT ts ia) (t : TO) (hw : 37 <= iw) : LawT (ts.set iw t) ia := by
 obtain ⟨t2, a1, a2⟩ := L.p2
 refine ⟨by rw [List.length_set]; exact L.len, by rw [List.length_set]; exact L.lt, L.ge, ⟨t2, by rw [List.getElem?_set_ne (by omega)]; exact a1, a2⟩, fun j hj => ?_⟩
 obtain ⟨t9, b1, b2⟩ := L.fn j hj
 exact ⟨t9, by rw [List.getElem?_set_ne (by omega)]; exact b1, b2⟩
theorem LS.cl1 : StP w.heap.size (LS w h A m ts ia b n xs st) := ⟨fun a hb => a.on hb, fun a hE => a.excl hE, fun a hl hg hn i u => a.put hl hg hn i u⟩
theorem LS.member_next (H : LS w h A m ts ia b n xs st E W) (LT9 : LawT ts ia) (LW9 : LawW ts iw o kd sl at_) (hl : ts.length < 99999) (hne : iw ≠ ia) :
  Calls Tryz.prog 21 #[.pointer (some ⟨m, 0, none⟩), valV (9, (iw : Int) + 1, ⟨#[]⟩), .string nxB] W fun e w' => e = .returned (.tuple #[valV (9, 37, ⟨#[]⟩), .int .i64 0]) /\ Below W.heap.size W w' := by
 obtain ⟨ev, na, ca, xs0, h1, -⟩ := H.x
 have L := LW9.setA (TO.arr b 3 ev) LT9.ge hne
 obtain ⟨t2, ht2, p1, p2, p3, p4, p5, p6⟩ := L.p11
 refine member_w W m (9, (iw : Int) + 1, ⟨#[]⟩) kNx (9, 37, ⟨#[]⟩) nxB ⟨fun W' => val_nx W'⟩ ⟨fun W' hb => ?_⟩
 refine getkey_w W' m _ _ _ rfl ⟨fun W2 hb2 => ?_⟩
 have H2 := h1.on (hb.trans (hb2.mono hb.size))
 refine getfrom_w W2 m h _ 5 true _ _ _ (by decide) (H2.mm.mb.at_ 0) H2.mm.mb.lt ⟨fun W4 hb4 => ?_⟩
 have H4 := H2.on hb4
 have ho1 := H4.ownT L.wk rfl kNx (.inl rfl) rfl (by decide)
 have ho2 := H4.ownT ht2 (by rw [p1]; rfl) kNx (.inl (by rw [p1]; rfl)) rfl (by decide)
 rw [p6, look_e11] at ho2
 exact H4.find2 (by rw [List.length_set]; omega) iw 11 _ t2 L.wk ht2 rfl (by rw [p1]; rfl) rfl p2 _ _ _ ho1 ho2
set_option maxHeartbeats 1000000 in
theorem LS.next_more (H : LS w h A m ts ia b n xs st E W) (L : LawT ts ia) (LW : LawW ts iw o kd (.slice (some ⟨g, 0, none⟩) 1 1) (i : Int)) (hkd : kd = 2 \/ kd = 3) (hne : iw ≠ ia) (hE : ∀ k, E k -> k < W.heap.size) (hs0 : 0 <= st) (hs1 : st < 4194304) (hl : ts.length < 99999) (hn9 : n <= 1000000) (hi9 : i <= 1000000) (hgE : E g) (hg : Box W g VTy #[.int .i64 9, .int .i64 ((ia : Int) + 1), .string ⟨#[]⟩]) (hin : i < n) (hx : (xs i).1 ≠ 10) :
  Calls Tryz.prog 20 #[.pointer (some ⟨m, 0, none⟩), valV (9, (iw : Int) + 1, ⟨#[]⟩), .string ⟨#[110, 101, 120, 116]⟩, .slice none 0 0] W fun e w' => e = .returned (.tuple #[valV (9, (ts.length : Int) + 1, ⟨#[]⟩), .int .i64 0]) /\ LT w h A m ia b n xs (st + 1) (fun ts1 => ∃ ob pv F, ts1 = ts.set iw (TO.wkr o kd (.slice (some ⟨g, 0, none⟩) 1 1) ((i : Int) + 1)) ++ [(⟨ob, 0, 1, pv, .slice none 0 0, .nilIface, kd0, F, [(kVal, (xs i), 7), (kDone, tvV false, 7)]⟩ : TO)]) E w' /\ (∀ b t c, t ∈ kvL -> E b -> Box W b t c -> Box w' b t c) /\ W.heap.size <= w'.heap.size := by
 have hB := H.bel.size
 refine ask_gen LS.cl1 LT.cl H hB hE (9, (iw : Int) + 1, ⟨#[]⟩) (9, 37, ⟨#[]⟩) _ 0 ⟨#[110, 101, 120, 116]⟩ (.slice none 0 0) (fun w9 hb => ((H.on hb).member_next L LW hl hne).mono fun e w' h9 => h9) (fun w9 E' H9 hE9 hEE hb9 => ?_)
 have key := H9.callT L hE9 hs0 hs1 14 (by decide) (9, (iw : Int) + 1, ⟨#[]⟩) (.slice none 0 0) [] (RowV.nil _) (by decide) (fun k hk => by cases hk) (9, (ts.length : Int) + 1, ⟨#[]⟩) 0 (st' := st + 1) (n' := n) (ys := xs) (fun ts1 => ∃ ob pv F, ts1 = ts.set iw (TO.wkr o kd (.slice (some ⟨g, 0, none⟩) 1 1) ((i : Int) + 1)) ++ [(⟨ob, 0, 1, pv, .slice none 0 0, .nilIface, kd0, F, [(kVal, (xs i), 7), (kDone, tvV false, 7)]⟩ : TO)]) (fun W1 f1 V0 fo _ has hov hst hpr hbx _ _ => ?_)
 ·exact key
 obtain ⟨ev, xs0, q1, q2, q3, q4, q5⟩ := has.x
 have hia := L.lt
 have hge := L.ge
 have hlen : (ts.set ia (TO.arr b 3 ev)).length = ts.length := List.length_set ..
 have key := nxa_more (LW.setA (TO.arr b 3 ev) hge hne) hkd (by rw [hlen]; exact hl) (List.getElem?_set_self hia) hne hn9 hi9 hin (by rw [q3 i hin]; exact hx) W1 f1 fo q1 (hpr 0) q2 (hbx g VTy _ (by decide) (hEE g hgE) (hg.below hb9)).1
 rw [q3 i hin] at key
 rw [hlen] at key
 refine key.mono ?_
 rintro e w' ⟨he, ts1, ⟨ob, pv, F, e1⟩, h1, h2⟩
 refine ⟨he, _, ⟨ob, pv, F, rfl⟩, ⟨ev, xs0, ?_, q2.bv (h2.bv (fun _ => False)) (fun k _ h => h), q3, h2.bv V0, q5⟩⟩
 have e3 : ({ f1 with st := st + 1 } : MF) = f1 := by rw [<- hst]
 rw [e3]
 rw [e1] at h1
 rw [List.set_comm _ _ (Ne.symm hne), <- List.set_append_left _ _ (by rw [List.length_set]; exact hia)] at h1
 exact h1
set_option maxHeartbeats 1000000 in
theorem LS.next_end (H : LS w h A m ts ia b n xs st E W) (L : LawT ts ia) (LW : LawW ts iw o kd (.slice (some ⟨g, 0, none⟩) 1 1) (i : Int)) (hkd : kd = 2 \/ kd = 3) (hne : iw ≠ ia) (hE : ∀ k, E k -> k < W.heap.size) (hs0 : 0 <= st) (hs1 : st < 4194304) (hl : ts.length < 99999) (hn9 : n <= 1000000) (hi9 : i <= 1000000) (hgE : E g) (hg : Box W g VTy #[.int .i64 9, .int .i64 ((ia : Int) + 1), .string ⟨#[]⟩]) (hin : n <= i) :
  Calls Tryz.prog 20 #[.pointer (some ⟨m, 0, none⟩), valV (9, (iw : Int) + 1, ⟨#[]⟩), .string ⟨#[110, 101, 120, 116]⟩, .slice none 0 0] W fun e w' => e = .returned (.tuple #[valV (9, (ts.length : Int) + 1, ⟨#[]⟩), .int .i64 0]) /\ LT w h A m ia b n xs (st + 1) (fun ts1 => ∃ ob pv F, ts1 = ts.set iw (TO.wkr o kd (.slice none 0 0) (i : Int)) ++ [(⟨ob, 0, 1, pv, .slice none 0 0, .nilIface, kd0, F, [(kVal, zV, 7), (kDone, tvV true, 7)]⟩ : TO)]) E w' /\ (∀ b t c, t ∈ kvL -> E b -> Box W b t c -> Box w' b t c) /\ W.heap.size <= w'.heap.size := by
 have hB := H.bel.size
 refine ask_gen LS.cl1 LT.cl H hB hE (9, (iw : Int) + 1, ⟨#[]⟩) (9, 37, ⟨#[]⟩) _ 0 ⟨#[110, 101, 120, 116]⟩ (.slice none 0 0) (fun w9 hb => ((H.on hb).member_next L LW hl hne).mono fun e w' h9 => h9) (fun w9 E' H9 hE9 hEE hb9 => ?_)
 have key := H9.callT L hE9 hs0 hs1 14 (by decide) (9, (iw : Int) + 1, ⟨#[]⟩) (.slice none 0 0) [] (RowV.nil _) (by decide) (fun k hk => by cases hk) (9, (ts.length : Int) + 1, ⟨#[]⟩) 0 (st' := st + 1) (n' := n) (ys := xs) (fun ts1 => ∃ ob pv F, ts1 = ts.set iw (TO.wkr o kd (.slice none 0 0) (i : Int)) ++ [(⟨ob, 0, 1, pv, .slice none 0 0, .nilIface, kd0, F, [(kVal, zV, 7), (kDone, tvV true, 7)]⟩ : TO)]) (fun W1 f1 V0 fo _ has hov hst hpr hbx _ _ => ?_)
 ·exact key
 obtain ⟨ev, xs0, q1, q2, q3, q4, q5⟩ := has.x
 have hia := L.lt
 have hge := L.ge
 have hlen : (ts.set ia (TO.arr b 3 ev)).length = ts.length := List.length_set ..
 have key := nxa_end (LW.setA (TO.arr b 3 ev) hge hne) hkd (by rw [hlen]; exact hl) (List.getElem?_set_self hia) hne hn9 hi9 hin W1 f1 fo q1 (hpr 0) q2 (hbx g VTy _ (by decide) (hEE g hgE) (hg.below hb9)).1
 rw [hlen] at key
 refine key.mono ?_
 rintro e w' ⟨he, ts1, ⟨ob, pv, F, e1⟩, h1, h2⟩
 refine ⟨he, _, ⟨ob, pv, F, rfl⟩, ⟨ev, xs0, ?_, q2.bv (h2.bv (fun _ => False)) (fun k _ h => h), q3, h2.bv V0, q5⟩⟩
 have e3 : ({ f1 with st := st + 1 } : MF) = f1 := by rw [<- hst]
 rw [e3]
 rw [e1] at h1
 rw [List.set_comm _ _ (Ne.symm hne), <- List.set_append_left _ _ (by rw [List.length_set]; exact hia)] at h1
 exact h1
set_option maxHeartbeats 1000000 in
theorem LS.next_gone (H : LS w h A m ts ia b n xs st E W) (L : LawT ts ia) (LW : LawW ts iw o kd (.slice none 0 0) at_) (hkd : kd = 2 \/ kd = 3) (hne : iw ≠ ia) (hE : ∀ k, E k -> k < W.heap.size) (hs0 : 0 <= st) (hs1 : st < 4194304) (hl : ts.length < 99999)  :
  Calls Tryz.prog 20 #[.pointer (some ⟨m, 0, none⟩), valV (9, (iw : Int) + 1, ⟨#[]⟩), .string ⟨#[110, 101, 120, 116]⟩, .slice none 0 0] W fun e w' => e = .returned (.tuple #[valV (9, (ts.length : Int) + 1, ⟨#[]⟩), .int .i64 0]) /\ LT w h A m ia b n xs (st + 1) (fun ts1 => ∃ ob pv F, ts1 = ts ++ [(⟨ob, 0, 1, pv, .slice none 0 0, .nilIface, kd0, F, [(kVal, zV, 7), (kDone, tvV true, 7)]⟩ : TO)]) E w' /\ (∀ b t c, t ∈ kvL -> E b -> Box W b t c -> Box w' b t c) /\ W.heap.size <= w'.heap.size := by
 have hB := H.bel.size
 refine ask_gen LS.cl1 LT.cl H hB hE (9, (iw : Int) + 1, ⟨#[]⟩) (9, 37, ⟨#[]⟩) _ 0 ⟨#[110, 101, 120, 116]⟩ (.slice none 0 0) (fun w9 hb => ((H.on hb).member_next L LW hl hne).mono fun e w' h9 => h9) (fun w9 E' H9 hE9 hEE hb9 => ?_)
 have key := H9.callT L hE9 hs0 hs1 14 (by decide) (9, (iw : Int) + 1, ⟨#[]⟩) (.slice none 0 0) [] (RowV.nil _) (by decide) (fun k hk => by cases hk) (9, (ts.length : Int) + 1, ⟨#[]⟩) 0 (st' := st + 1) (n' := n) (ys := xs) (fun ts1 => ∃ ob pv F, ts1 = ts ++ [(⟨ob, 0, 1, pv, .slice none 0 0, .nilIface, kd0, F, [(kVal, zV, 7), (kDone, tvV true, 7)]⟩ : TO)]) (fun W1 f1 V0 fo _ has hov hst hpr hbx _ _ => ?_)
 ·exact key
 obtain ⟨ev, xs0, q1, q2, q3, q4, q5⟩ := has.x
 have hia := L.lt
 have hge := L.ge
 have hlen : (ts.set ia (TO.arr b 3 ev)).length = ts.length := List.length_set ..
 have key := nx_done (LW.setA (TO.arr b 3 ev) hge hne) hkd (by rw [hlen]; exact hl) W1 f1 fo q1 (hpr 0)
 rw [hlen] at key
 refine key.mono ?_
 rintro e w' ⟨he, ts1, ⟨ob, pv, F, e1⟩, h1, h2⟩
 refine ⟨he, _, ⟨ob, pv, F, rfl⟩, ⟨ev, xs0, ?_, q2.bv (h2.bv (fun _ => False)) (fun k _ h => h), q3, h2.bv V0, q5⟩⟩
 have e3 : ({ f1 with st := st + 1 } : MF) = f1 := by rw [<- hst]
 rw [e3]
 rw [e1] at h1
 rw [<- List.set_append_left _ _ hia] at h1
 exact h1
theorem LS.value {ir ob : Nat} {pv : Value} {F : Nat -> Prop} {v : Vt} {d : Bool} (H : LS w h A m (ts ++ [(⟨ob, 0, 1, pv, .slice none 0 0, .nilIface, kd0, F, [(kVal, v, 7), (kDone, tvV d, 7)]⟩ : TO)]) ia b n xs st E W) (L : LawT ts ia) (LW : LawW (ts ++ [(⟨ob, 0, 1, pv, .slice none 0 0, .nilIface, kd0, F, [(kVal, v, 7), (kDone, tvV d, 7)]⟩ : TO)]) iw o kd sl at_) (hir : ts.length = ir) (hl : ts.length < 99998) :
  Calls Tryz.prog 21 #[.pointer (some ⟨m, 0, none⟩), valV (9, (ir : Int) + 1, ⟨#[]⟩), .string ⟨#[118, 97, 108, 117, 101]⟩] W fun e w' => e = .returned (.tuple #[valV v, .int .i64 0]) /\ Below W.heap.size W w' := by
 obtain ⟨ev, na, ca, xs0, h1, -⟩ := H.x
 obtain ⟨t0, h0, hp0⟩ := LW.p0
 have hia := L.lt
 have hge := L.ge
 have ht : ((ts ++ [(⟨ob, 0, 1, pv, .slice none 0 0, .nilIface, kd0, F, [(kVal, v, 7), (kDone, tvV d, 7)]⟩ : TO)]).set ia (TO.arr b 3 ev))[ir]? = some (⟨ob, 0, 1, pv, .slice none 0 0, .nilIface, kd0, F, [(kVal, v, 7), (kDone, tvV d, 7)]⟩ : TO) := by
  rw [List.getElem?_set_ne (by omega), <- hir, List.getElem?_append_right (Nat.le_refl _), Nat.sub_self]
  rfl
 exact h1.part (by rw [List.length_set, List.length_append]; show ts.length + 1 < 100000; omega) ht rfl rfl (by rw [List.getElem?_set_ne (by omega)]; exact h0) hp0 ⟨#[118, 97, 108, 117, 101]⟩ kVal v (look_val v _) rfl (by decide) val_value
theorem LS.done {ir ob : Nat} {pv : Value} {F : Nat -> Prop} {v : Vt} {d : Bool} (H : LS w h A m (ts ++ [(⟨ob, 0, 1, pv, .slice none 0 0, .nilIface, kd0, F, [(kVal, v, 7), (kDone, tvV d, 7)]⟩ : TO)]) ia b n xs st E W) (L : LawT ts ia) (LW : LawW (ts ++ [(⟨ob, 0, 1, pv, .slice none 0 0, .nilIface, kd0, F, [(kVal, v, 7), (kDone, tvV d, 7)]⟩ : TO)]) iw o kd sl at_) (hir : ts.length = ir) (hl : ts.length < 99998) :
  Calls Tryz.prog 21 #[.pointer (some ⟨m, 0, none⟩), valV (9, (ir : Int) + 1, ⟨#[]⟩), .string ⟨#[100, 111, 110, 101]⟩] W fun e w' => e = .returned (.tuple #[valV (tvV d), .int .i64 0]) /\ Below W.heap.size W w' := by
 obtain ⟨ev, na, ca, xs0, h1, -⟩ := H.x
 obtain ⟨t0, h0, hp0⟩ := LW.p0
 have hia := L.lt
 have hge := L.ge
 have ht : ((ts ++ [(⟨ob, 0, 1, pv, .slice none 0 0, .nilIface, kd0, F, [(kVal, v, 7), (kDone, tvV d, 7)]⟩ : TO)]).set ia (TO.arr b 3 ev))[ir]? = some (⟨ob, 0, 1, pv, .slice none 0 0, .nilIface, kd0, F, [(kVal, v, 7), (kDone, tvV d, 7)]⟩ : TO) := by
  rw [List.getElem?_set_ne (by omega), <- hir, List.getElem?_append_right (Nat.le_refl _), Nat.sub_self]
  rfl
 exact h1.part (by rw [List.length_set, List.length_append]; show ts.length + 1 < 100000; omega) ht rfl rfl (by rw [List.getElem?_set_ne (by omega)]; exact h0) hp0 ⟨#[100, 111, 110, 101]⟩ kDone (tvV d) (look_done v _) rfl (by decide) val_done
end
end Go.Proofs.YtahkohfppakaiaaGreatDoor
namespace Go.Proofs.YtahkohfppakaiaaGreatDoor
open Go Go.RowKit
attribute [local go_sem] Oper.semAt_some
theorem kI_ne5 (n : Nat) (hn : n < 500) : ((kI n).toList == []) = false := by
 have key : ∀ k : Fin 500, ((kI k.1).toList == []) = false := by decide +kernel
 exact key ⟨n, hn⟩
theorem dec_all (n : Nat) (hn : n < 500) : Lib.itoa (n : Int) = dgs n := by
 have key : ∀ k : Fin 500, Lib.itoa (k.1 : Int) = dgs k.1 := by decide +kernel
 exact key ⟨n, hn⟩
theorem fmt_all (n : Nat) (hn : n < 500) (w : World) (hT : Lib.TabIs Tryz.prog w "internal/strconv.uint64pow10" .u64 Lib.pow10Tab) : Calls Tryz.prog 154 #[.int .i64 (n : Int), .int .i64 10] w fun e w9 => e = .returned (.string ⟨(dgs n).toArray⟩) /\ Below w.heap.size w w9 := by
 refine (Tryz.strconv_FormatInt_10 (n : Int) (by omega) (by omega) w hT).mono ?_
 rintro e w' ⟨he, k, os, rfl⟩
 rw [dec_all n hn] at he
 exact ⟨he, Lib.below_grow _ _ (Nat.le_refl _) _ _⟩
section
variable {W w w' w0 : World} {h A m ia b n n' : Nat} {f f2 : MF} {ts : List TO} {V0 E K : Nat -> Prop} {xs ys : Nat -> Vt} {t2 : TO}
theorem AS.bel (H : AS W h A m f ts ia b V0 n xs E w) : Below A W w := by
 obtain ⟨_, _, _, _, _, h9, _⟩ := H.x
 exact h9.bel
theorem AS.mputelF (H : AS W h A m f ts ia b V0 n xs (fun _ => False) W) (hia : ia < ts.length) (hne : ia ≠ 2) (ht2 : ts[2]? = some t2) (hp2 : PlT t2 1 e2W) (hl : ts.length < 100000) (hn : n < 500) (hF : ∀ w2, Below W.heap.size W w2 -> Calls Tryz.prog 154 #[.int .i64 (n : Int), .int .i64 10] w2 fun e w3 => e = .returned (.string ⟨(dgs n).toArray⟩) /\ Below w2.heap.size w2 w3) (x : Vt) :
  Calls Tryz.prog 43 #[.pointer (some ⟨m, 0, none⟩), valV (9, (ia : Int) + 1, ⟨#[]⟩), valV (3, (n : Int), ⟨#[]⟩), valV x] W fun e w' => e = .returned (.tuple #[valV x, .int .i64 0]) /\ AS W h A m f ts ia b V0 (n + 1) (fun j => if j = n then x else xs j) (fun _ => False) w' := by
 have hbx : ∃ ev, Box W b 63 (objC 1 3 false (.pointer none) ev) /\ ∃ ao cap, ev = .slice ao n cap := by
  obtain ⟨ev, xs0, h1, h2, -⟩ := H.x
  exact ⟨ev, h1.mem_b (List.mem_of_getElem? (List.getElem?_set_self hia)) rfl, h2.evs⟩
 obtain ⟨ev, hbx, ao, cap, hev⟩ := hbx
 obtain ⟨k1, k2, k3⟩ := kI_all n (by omega)
 refine H.mput hia (3, (n : Int), ⟨#[]⟩) (7, 0, kI n) x (n + 1) (fun j => if j = n then x else xs j) ⟨fun W' hb => ?_⟩ ⟨fun W' hb => property_int n (by omega) W' ⟨fun w2 hb2 => hF w2 (hb.trans (hb2.mono hb.size))⟩⟩ ⟨fun W' hb => ?_⟩ ⟨fun W' E V1 hs hE => hs.hput hia hne ht2 hp2 hl (by omega) hE (Nat.le_refl _) x⟩
 ·exact has_no W' b n ev ao cap n hev (Nat.le_refl _) (by omega) ((hbx.below hb).at_ 0) ((hbx.below hb).at_ 4) (hbx.below hb).lt
 ·exact foreign_idx W' b (kI n) n (by omega) (kI_ne5 n hn) k1 ((hbx.below hb).at_ 0) (hbx.below hb).lt
set_option maxRecDepth 100000 in
set_option maxHeartbeats 16000000 in
theorem AS.pushF (H : AS W h A m f ts ia b V0 n xs (fun _ => False) W) (hia : ia < ts.length) (hne : ia ≠ 2) (ht2 : ts[2]? = some t2) (hp2 : PlT t2 1 e2W) (hl : ts.length < 100000) (l : List Vt) (hn : n + l.length <= 500) (hF : ∀ q : Nat, q < 500 -> ∀ w2, Below A W w2 -> Calls Tryz.prog 154 #[.int .i64 (q : Int), .int .i64 10] w2 fun e w3 => e = .returned (.string ⟨(dgs q).toArray⟩) /\ Below w2.heap.size w2 w3) (hov : f.ov = false) (hs0 : 0 <= f.st) (hs1 : f.st + l.length < 4194304) (args : Value) (hr : RowV W args l) (hV : ∀ k, args.ownBlock = some k -> ¬ V0 k) :
  Calls Tryz.prog 353 #[.pointer (some ⟨m, 0, none⟩), valV (9, (ia : Int) + 1, ⟨#[]⟩), .pointer (some ⟨b, 0, none⟩), args] W fun e w' => e = .returned (.tuple #[valV (3, (n : Int) + (l.length : Int), ⟨#[]⟩), .int .i64 0]) /\ AS W h A m { f with st := f.st + l.length } ts ia b V0 (n + l.length) (fun i => if i < n then xs i else lx l (i - n)) (fun _ => False) w' := by
 obtain ⟨fv, hfv⟩ : ∃ fv : Vt, ((9, (ia : Int) + 1, ⟨#[]⟩) : Vt) = fv := ⟨_, rfl⟩
 have HA : Veil (A <= W.heap.size) := ⟨H.lt⟩
 have hr0 := hr
 obtain ⟨ao, cap, ha, hcap, hnil, hrow⟩ := hr0
 have HR := Veil.mk (And.intro hr hV)
 obtain ⟨ys, hys⟩ : ∃ ys : Nat -> Vt, (fun i => if i < n then xs i else lx l (i - n)) = ys := ⟨_, rfl⟩
 have hy0 : ∀ j, j < n -> xs j = ys j := fun j hj => by rw [<- hys]; show _ = if j < n then _ else _; rw [if_pos hj]
 have hyj : ∀ j, lx l j = ys (n + j) := fun j => by rw [<- hys]; show _ = if n + j < n then _ else _; rw [if_neg (by omega), Nat.add_sub_cancel_left]
 rw [hys]
 obtain ⟨tb, htb⟩ : ∃ tb, W.heap.size = tb := ⟨_, rfl⟩
 obtain ⟨rb, hrb⟩ : ∃ rb, tb + 1 = rb := ⟨_, rfl⟩
 obtain ⟨W0, hW0⟩ : ∃ W0, ((W.alloc (.cells #[.int .i64 fv.1, .int .i64 fv.2.1, .string fv.2.2] 28)).alloc (.cells #[.int .i64 0, .int .i64 0, .string ⟨#[]⟩] 28)) = W0 := ⟨_, rfl⟩
 have bb : Below W.heap.size W W0 := by rw [<- hW0]; exact (((Below.refl _ _).alloc (Nat.le_refl _) _).alloc (by simp only [World.size_alloc]; omega) _)
 have xtb : Box W0 tb 28 #[.int .i64 fv.1, .int .i64 fv.2.1, .string fv.2.2] := by have h9 := ((Box.new W 28 #[.int .i64 fv.1, .int .i64 fv.2.1, .string fv.2.2]).more (.cells #[.int .i64 0, .int .i64 0, .string ⟨#[]⟩] 28)); rw [hW0, htb] at h9; exact h9
 have xrb : Box W0 rb 28 #[.int .i64 0, .int .i64 0, .string ⟨#[]⟩] := by have h9 := Box.new (W.alloc (.cells #[.int .i64 fv.1, .int .i64 fv.2.1, .string fv.2.2] 28)) 28 #[.int .i64 0, .int .i64 0, .string ⟨#[]⟩]; rw [hW0, show (W.alloc (.cells #[.int .i64 fv.1, .int .i64 fv.2.1, .string fv.2.2] 28)).heap.size = rb from by simp only [World.size_alloc]; omega] at h9; exact h9
 have HW0 := Veil.mk (And.intro hW0 (And.intro htb (hrb)))
 have HBB := Veil.mk (And.intro bb (And.intro xtb (xrb)))
 have HLO : Veil (W.heap.size <= tb /\ W.heap.size <= rb) := ⟨by omega⟩
 clear hW0 bb htb xtb hrb xrb
 have HS0 := Veil.mk ((((H.congr hy0).excl (E' := fun k => W.heap.size <= k) (fun k hk => .inr hk)).on HBB.out.1).excl (E' := fun k => k = tb \/ k = rb) (fun k hk => .inl (by rcases hk with rfl | rfl; exact HLO.out.1; exact HLO.out.2)))
 have HC4 : Veil (∃ ao2 c2, W0.cell? ⟨b, 4, none⟩ = some (.slice ao2 n c2)) := ⟨by
  obtain ⟨ev, xs0, h1, h2, -⟩ := H.x
  obtain ⟨ao2, c2, he⟩ := h2.evs
  have hbx := (h1.mem_b (List.mem_of_getElem? (List.getElem?_set_self hia)) rfl)
  exact ⟨ao2, c2, by rw [<- he]; exact (hbx.below HBB.out.1).at_ 4⟩⟩
 obtain ⟨ao2, c2, hc4⟩ := HC4.out
 have HPL : Veil (∀ w9 V1 j v, j < l.length -> l[j]? = some v -> Below A W w9 -> AS w9 h A m { f with st := f.st + ((j : Int) + 1) } ts ia b V1 (n + j) ys (fun _ => False) w9 -> Calls Tryz.prog 43 #[.pointer (some ⟨m, 0, none⟩), valV fv, valV (3, ((n + j : Nat) : Int), ⟨#[]⟩), valV v] w9 fun e w' => e = .returned (.tuple #[valV v, .int .i64 0]) /\ AS w9 h A m { f with st := f.st + ((j : Int) + 1) } ts ia b V1 (n + j + 1) ys (fun _ => False) w') := ⟨fun w9 V1 j v hj hv hbA hs => by
  rw [<- hfv]
  refine (hs.mputelF hia hne ht2 hp2 hl (by omega) (fun w2 hb2 => hF _ (by omega) w2 (hbA.trans (hb2.mono hs.lt))) v).mono ?_
  rintro e w' ⟨he, hq⟩
  refine ⟨he, hq.congr (fun i hi => ?_)⟩
  by_cases e9 : i = n + j
  ·rw [if_pos e9, e9, <- hyj j]
   show v = l.getD j _
   rw [List.getD_eq_getElem?_getD, hv]
   rfl
  ·rw [if_neg e9]⟩
 have HWL : Veil (∀ w9 V1, AS w9 h A m { f with st := f.st + (l.length : Int) } ts ia b V1 (n + l.length) ys (fun _ => False) w9 -> Calls Tryz.prog 364 #[.pointer (some ⟨m, 0, none⟩), valV fv, .int .i64 ((n + l.length : Nat) : Int)] w9 fun e w' => e = .returned (.tuple #[valV fv, .int .i64 0]) /\ AS w9 h A m { f with st := f.st + (l.length : Int) } ts ia b V1 (n + l.length) ys (fun _ => False) w') := ⟨fun w9 V1 hs => by
  rw [<- hfv]
  refine (hs.withlen hia (n + l.length) (by omega)).mono ?_
  rintro e w' ⟨he, hq⟩
  exact ⟨he, hq.congr (fun i hi => by show (if i < n + l.length then _ else _) = _; rw [if_pos hi])⟩⟩
 have HK := Veil.mk (And.intro hov (And.intro hs0 (And.intro hs1 (And.intro hl hn))))
 have HNIL := Veil.mk hnil
 have HROW := Veil.mk hrow
 subst ha
 rw [hfv]
 clear hF
 clear hfv H hia hne ht2 hp2 hl hov hs0 hs1 hr hV hys hy0 hyj hnil hrow HC4
 have hn100 : n + l.length <= 500 := hn
 have hn0 : (0 : Int) <= (n : Int) := by omega
 clear hn
 go_enter Tryz.func353, Tryz.ntmps353
 go_upto_region 1 with (fail)
 rw [HW0.out.1, HW0.out.2.1, HW0.out.2.2]
 go_wp2
 clear hc4
 have H0 : Veil (AS W h A m { f with st := f.st + ((0 : Nat) : Int) } ts ia b V0 (n + 0) ys (fun k => k = tb \/ k = rb) W0 /\ Box W0 tb VTy #[.int .i64 fv.1, .int .i64 fv.2.1, .string fv.2.2] /\ Box W0 rb VTy #[.int .i64 0, .int .i64 0, .string ⟨#[]⟩]) := ⟨by
  refine ⟨?_, HBB.out.2.1, HBB.out.2.2⟩
  have e9 : ({ f with st := f.st + ((0 : Nat) : Int) } : MF) = f := by show ({ f with st := f.st + 0 } : MF) = f; rw [Int.add_zero]
  rw [e9]
  exact HS0.out⟩
 have HSZ : Veil (W.heap.size <= W0.heap.size) := ⟨HBB.out.1.size⟩
 clear HS0 HBB HW0
 go_loopw [10, 24] (fun c i wr => ∃ j q : Nat, j <= l.length /\ q = n + j /\ c = .int .i64 (q : Int) /\ i = .int .i64 (j : Int) /\ AS W h A m { f with st := f.st + (j : Int) } ts ia b V0 (n + j) ys (fun k => k = tb \/ k = rb) wr /\ Box wr tb VTy #[.int .i64 fv.1, .int .i64 fv.2.1, .string fv.2.2] /\ Box wr rb VTy #[.int .i64 0, .int .i64 0, .string ⟨#[]⟩] /\ W.heap.size <= wr.heap.size) (fun _ i _ => l.length - (intOf i).toNat)
 case atStart => exact ⟨0, n, by omega, rfl, rfl, rfl, H0.out.1, H0.out.2.1, H0.out.2.2, HSZ.out⟩
 case round =>
  clear H0
  obtain ⟨j, q, hj, hq, rfl, rfl, hs, hbt, hbr, hsz⟩ := hrel
  have hj0 : (0 : Int) <= (j : Int) := by omega
  have hq0 : (0 : Int) <= (q : Int) := by omega
  have hq1 : (q : Int) <= 500 := by omega
  have HQE := Veil.mk hq
  clear hq
  by_cases hlt : j < l.length
  ·have hlt' : (j : Int) < (l.length : Int) := by omega
   obtain ⟨v, hv⟩ : ∃ v, l[j]? = some v := ⟨_, List.getElem?_eq_getElem hlt⟩
   obtain ⟨ga, hga⟩ : ∃ g, ao = some ⟨g, 0, none⟩ := by
    cases ao with
    | none =>
     have h1 := (HNIL.out rfl).1
     rw [h1] at hlt
     exact absurd hlt (by simp)
    | some ad =>
     obtain ⟨g, e, -⟩ := HROW.out ad rfl
     exact ⟨g, by rw [e]⟩
   subst hga
   have hrw : RowV wr (.slice (some ⟨ga, 0, none⟩) l.length cap) l := by obtain ⟨_, _, _, _, _, g4, _⟩ := hs.x; exact g4.row HR.out.1 HR.out.2
   obtain ⟨ao3, cap3, he3, -, -, hc3⟩ := hrw
   injection he3 with he3 _ he4
   subst he3
   obtain ⟨g3, hg3, -, hcs⟩ := hc3 _ rfl
   injection hg3 with hg3
   subst hg3
   obtain ⟨f0, f1, f2⟩ := flatV_at l j v hv
   have c0 := hcs _ _ f0
   have c1 := hcs _ _ f1
   have c2 := hcs _ _ f2
   have HS := Veil.mk (And.intro hs (And.intro hbt (And.intro hbr hsz)))
   clear f0 f1 f2 hcs hc3 he4 hs hbt hbr hsz
   go_upto_region 5 with (fail)
   obtain ⟨vb, hvb⟩ : ∃ vb, wr.heap.size = vb := ⟨_, rfl⟩
   obtain ⟨W2, hW2⟩ : ∃ W2, wr.alloc (.cells #[.int .i64 v.1, .int .i64 v.2.1, .string v.2.2] 28) = W2 := ⟨_, rfl⟩
   have bx := Box.new wr 28 #[.int .i64 v.1, .int .i64 v.2.1, .string v.2.2]
   have bl : Below wr.heap.size wr (wr.alloc (.cells #[.int .i64 v.1, .int .i64 v.2.1, .string v.2.2] 28)) := (Below.refl _ _).alloc (Nat.le_refl _) _
   rw [hW2] at bx bl ⊢
   have h2 := (HS.out.1.excl (E' := (fun k => k = tb \/ k = rb \/ k = vb)) (fun k hk => by rcases hk with h9 | h9 | h9; exact .inl (.inl h9); exact .inl (.inr h9); exact .inr (by omega))).on bl
   rw [hvb] at bx ⊢
   have HB2 := Veil.mk (And.intro (HS.out.2.1.below bl) (And.intro (HS.out.2.2.1.below bl) bx))
   have HZ2 : Veil (W.heap.size <= W2.heap.size /\ W.heap.size <= vb) := ⟨by have := bl.size; have := HS.out.2.2.2; omega⟩
   have HM := Veil.mk (h2.spend HK.out.1 (by show 0 <= f.st + (j : Int); have := HK.out.2.1; omega) (by show f.st + (j : Int) < 4194304; have := HK.out.2.2.1; omega) HK.out.2.2.2.1)
   clear c0 c1 c2 hW2 bl bx h2 hvb HS
   go_upto_region 7 with (go_at_call 90; ((with_reducible refine HM.out.mono ?_); rintro e w3 ⟨rfl, h3, hk3⟩; have HS3 := Veil.mk (And.intro h3 (And.intro (hk3.boxE HB2.out.1 (by decide)) (And.intro (hk3.boxE HB2.out.2.1 (by decide)) (And.intro (hk3.boxE HB2.out.2.2 (by decide)) hk3.bel.size)))); clear h3 hk3))
   obtain ⟨WD, hWD⟩ : ∃ WD, w3.drew = WD := ⟨_, rfl⟩
   have hdr : Below w3.heap.size w3 WD := by rw [<- hWD]; exact (Below.refl _ _).drew
   have e9 : ({ ({ f with st := f.st + (j : Int) } : MF) with st := f.st + (j : Int) + 1 } : MF) = { f with st := f.st + ((j : Int) + 1) } := by show ({ f with st := f.st + (j : Int) + 1 } : MF) = _; rw [Int.add_assoc]
   have HSD : Veil (AS W h A m { f with st := f.st + ((j : Int) + 1) } ts ia b V0 (n + j) ys (fun k => k = tb \/ k = rb \/ k = vb) WD) := ⟨by rw [<- e9]; exact HS3.out.1.on hdr⟩
   have HXtb := Veil.mk (HS3.out.2.1.below hdr)
   have HXrb := Veil.mk (HS3.out.2.2.1.below hdr)
   have HXvb := Veil.mk (HS3.out.2.2.2.1.below hdr)
   have HZD : Veil (W.heap.size <= WD.heap.size) := ⟨by have := HS3.out.2.2.2.2; have := HZ2.out.1; have := hdr.size; omega⟩
   have HWD := Veil.mk hWD
   clear hWD hdr e9 HM HB2 HS3
   have HP9 : Veil (PG WD.heap.size (AB W h A m { f with st := f.st + ((j : Int) + 1) } ts ia b V0 (n + j + 1) ys (fun k => k = tb \/ k = rb \/ k = vb) [(tb, VTy, #[.int .i64 fv.1, .int .i64 fv.2.1, .string fv.2.2]), (rb, VTy, #[.int .i64 0, .int .i64 0, .string ⟨#[]⟩]), (vb, VTy, #[.int .i64 v.1, .int .i64 v.2.1, .string v.2.2])])) := ⟨AB.pg HA.out _ HZD.out (by
    intro q9 hq9
    simp only [List.mem_cons, List.not_mem_nil, or_false] at hq9
    rcases hq9 with rfl | rfl | rfl
    ·exact HXtb.out.lt
    ·exact HXrb.out.lt
    ·exact HXvb.out.lt)⟩
   have HC9 : Veil (∀ w', Below WD.heap.size WD w' -> Calls Tryz.prog 43 #[.pointer (some ⟨m, 0, none⟩), valV fv, valV (3, (q : Int), ⟨#[]⟩), valV v] w' fun e w9 => e = .returned (.tuple #[valV v, .int .i64 0]) /\ AB W h A m { f with st := f.st + ((j : Int) + 1) } ts ia b V0 (n + j + 1) ys (fun k => k = tb \/ k = rb \/ k = vb) [(tb, VTy, #[.int .i64 fv.1, .int .i64 fv.2.1, .string fv.2.2]), (rb, VTy, #[.int .i64 0, .int .i64 0, .string ⟨#[]⟩]), (vb, VTy, #[.int .i64 v.1, .int .i64 v.2.1, .string v.2.2])] (fun k => WD.heap.size <= k /\ k < w'.heap.size) w9 /\ (∀ g cs, WD.heap.size <= g -> Box w' g VTy cs -> Box w9 g VTy cs) /\ w'.heap.size <= w9.heap.size) := ⟨fun w' hb => by
    refine AS.callB HSD.out (fun k hk => by rcases hk with rfl | rfl | rfl; exact HXtb.out.lt; exact HXrb.out.lt; exact HXvb.out.lt) HZD.out (fun q9 hq9 => ?_) hb (fun V1 h1 _ => by rw [HQE.out]; exact HPL.out w' V1 j v hlt hv ((AS.bel HSD.out).trans (hb.mono HSD.out.lt)) h1)
    simp only [List.mem_cons, List.not_mem_nil, or_false] at hq9
    rcases hq9 with rfl | rfl | rfl
    ·exact ⟨.inl rfl, by show VTy ∈ kvL; decide, HXtb.out⟩
    ·exact ⟨.inr (.inl rfl), by show VTy ∈ kvL; decide, HXrb.out⟩
    ·exact ⟨.inr (.inr rfl), by show VTy ∈ kvL; decide, HXvb.out⟩⟩
   clear HSD HXrb HZ2
   refine wp_region_chain (some (· = .pointer (some ⟨m, 0, none⟩)) :: some (· = valV fv) :: some (· = .int .i64 (q : Int)) :: some (· = valV (3, (q : Int), ⟨#[]⟩)) :: some (· = valV v) :: some (· = (.tuple #[valV v, .int .i64 0])) :: some (· = (.tuple #[valV v, .int .i64 0])) :: some (· = valV v) :: some (· = .int .i64 0) :: none :: none :: some (· = .int .i64 0) :: [] : List (Option (Value -> Prop))) (BG WD (AB W h A m { f with st := f.st + ((j : Int) + 1) } ts ia b V0 (n + j + 1) ys (fun k => k = tb \/ k = rb \/ k = vb) [(tb, VTy, #[.int .i64 fv.1, .int .i64 fv.2.1, .string fv.2.2]), (rb, VTy, #[.int .i64 0, .int .i64 0, .string ⟨#[]⟩]), (vb, VTy, #[.int .i64 v.1, .int .i64 v.2.1, .string v.2.2])]) v 5 9 10) [some 33, some 34, some 35, some 36, some 37, some 38, some 32, some 39, some 40, some 13, none, some 14] (curV' _ [some 33, some 34, some 35, some 36, some 37, some 38, some 32, some 39, some 40, some 13, none, some 14]) (by kernel_rfl) rfl rfl (puts_cur _ _) (by rw [HWD.out]; exact BG.start) ?_ (by kernel_rfl) ?_
   ·refine SV rfl (fun _ _ _ _ _ S => ?_) ?_
    ·obtain ⟨_, _, _, _, _, _, _, _, _, _, _, _, rfl⟩ := lenA12 S.hu
     rw [pin S.ha]
     go_simp
     exact S.kS 0 _ rfl rfl rfl rfl (S.hI.ph.pure 0 _ (by decide))
    refine SV rfl (fun _ _ w' _ _ S => ?_) ?_
    ·obtain ⟨_, _, _, _, _, _, _, _, _, _, _, _, rfl⟩ := lenA12 S.hu
     have hz := (S.hI.bwd [1] 5 1 (by kernel_rfl) rfl S.h0)
     have hbl := S.hI.ph.s0 hz
     have hq9 := HXtb.out.below hbl
     have c0 : w'.cell? ⟨tb, 0, none⟩ = some (.int .i64 fv.1) := hq9.at_ 0
     have c1 : w'.cell? ⟨tb, 1, none⟩ = some (.int .i64 fv.2.1) := hq9.at_ 1
     have c2 : w'.cell? ⟨tb, 2, none⟩ = some (.string fv.2.2) := hq9.at_ 2
     clear hq9
     clear hbl hz
     rw [pin S.ha]
     go_simp
     exact S.kS 1 _ rfl rfl rfl rfl (S.hI.ph.pure 1 _ (by decide))
    refine SV rfl (fun _ _ _ _ _ S => ?_) ?_
    ·obtain ⟨_, _, _, _, _, _, _, _, _, _, _, _, rfl⟩ := lenA12 S.hu
     rw [pin S.ha]
     go_simp
     exact S.kS 2 _ rfl rfl rfl rfl (S.hI.ph.pure 2 _ (by decide))
    refine SV rfl (fun _ _ _ _ _ S => ?_) ?_
    ·obtain ⟨_, _, u2, _, _, _, _, _, _, _, _, _, rfl⟩ := lenA12 S.hu
     obtain rfl : u2 = _ := S.q 2 rfl
     rw [pin S.ha]
     go_simp
     go_at_call 362
     refine (whole_any _ _).mono ?_
     rintro e9 w9 ⟨rfl, hm9⟩
     go_simp
     exact S.kS 3 _ rfl rfl rfl rfl (S.hI.ph.quiet HP9.out 3 _ (by decide) hm9)
    refine SV rfl (fun _ _ w' _ _ S => ?_) ?_
    ·obtain ⟨_, _, _, _, _, _, _, _, _, _, _, _, rfl⟩ := lenA12 S.hu
     have hz := (S.hI.bwd [4] 5 4 (by kernel_rfl) rfl S.h0)
     have hbl := S.hI.ph.s0 hz
     have hq9 := HXvb.out.below hbl
     have c0 : w'.cell? ⟨vb, 0, none⟩ = some (.int .i64 v.1) := hq9.at_ 0
     have c1 : w'.cell? ⟨vb, 1, none⟩ = some (.int .i64 v.2.1) := hq9.at_ 1
     have c2 : w'.cell? ⟨vb, 2, none⟩ = some (.string v.2.2) := hq9.at_ 2
     clear hq9
     clear hbl hz
     rw [pin S.ha]
     go_simp
     exact S.kS 4 _ rfl rfl rfl rfl (S.hI.ph.pure 4 _ (by decide))
    refine SV rfl (fun _ _ w' _ _ S => ?_) ?_
    ·obtain ⟨u0, u1, _, u3, u4, _, _, _, _, _, _, _, rfl⟩ := lenA12 S.hu
     obtain rfl : u0 = _ := S.q 0 rfl
     obtain rfl : u1 = _ := S.q 1 rfl
     obtain rfl : u3 = _ := S.q 3 rfl
     obtain rfl : u4 = _ := S.q 4 rfl
     have h18 := (S.hI.bwd [5] 10 5 (by kernel_rfl) rfl S.h0)
     have hbl := S.hI.ph.s0 S.h0
     have HX9 := Veil.mk (HC9.out w' hbl)
     clear hbl
     rw [pin S.ha]
     go_simp
     go_at_call 43
     refine HX9.out.mono ?_
     rintro e9 w9 ⟨rfl, hq9, hk9, hs9⟩
     go_simp
     exact S.kS 5 _ rfl rfl rfl rfl (S.hI.ph.call HP9.out (by decide) (by decide) h18 hq9 hk9 hs9 _)
    refine SV rfl (fun _ _ _ _ _ S => ?_) ?_
    ·obtain ⟨_, _, _, _, _, u5, _, _, _, _, _, _, rfl⟩ := lenA12 S.hu
     obtain rfl : u5 = _ := S.q 5 rfl
     rw [pin S.ha]
     go_simp
     exact S.kS 6 _ rfl rfl rfl rfl (S.hI.ph.pure 6 _ (by decide))
    refine SV rfl (fun _ _ _ _ _ S => ?_) ?_
    ·obtain ⟨_, _, _, _, _, _, u6, _, _, _, _, _, rfl⟩ := lenA12 S.hu
     obtain rfl : u6 = _ := S.q 6 rfl
     rw [pin S.ha]
     go_simp
     exact S.kS 7 _ rfl rfl rfl rfl (S.hI.ph.pure 7 _ (by decide))
    refine SV rfl (fun _ _ _ _ _ S => ?_) ?_
    ·obtain ⟨_, _, _, _, _, _, u6, _, _, _, _, _, rfl⟩ := lenA12 S.hu
     obtain rfl : u6 = _ := S.q 6 rfl
     rw [pin S.ha]
     go_simp
     exact S.kS 8 _ rfl rfl rfl rfl (S.hI.ph.pure 8 _ (by decide))
    refine SV rfl (fun _ _ _ _ _ S => ?_) ?_
    ·obtain ⟨_, _, _, _, _, _, _, _, _, _, _, _, rfl⟩ := lenA12 S.hu
     have h18 := (S.hI.bwd [9] 10 9 (by kernel_rfl) rfl S.h0)
     rw [pin S.ha]
     go_simp
     exact S.kN 9 _ rfl rfl rfl (S.hI.ph.mk_ HP9.out (by decide) (by decide) h18)
    refine SV rfl (fun _ _ w' _ _ S => ?_) ?_
    ·obtain ⟨_, _, _, _, _, _, _, u7, _, u9, _, _, rfl⟩ := lenA12 S.hu
     obtain rfl : u7 = _ := S.q 7 rfl
     have h13 := (gen_after 5 (by kernel_rfl) S.hp)
     have h17 := gen_after 9 (by kernel_rfl) S.hp
     obtain ⟨g, hg, hlo, hz9, -⟩ := S.hI.ph.b h17
     replace hg : u9 = .pointer (some ⟨g, 0, none⟩) := hg
     subst hg
     have hzb := hz9 S.h0
     have z0 : w'.cell? ⟨g, 0, none⟩ = some (.int .i64 0) := hzb.at_ 0
     have z1 : w'.cell? ⟨g, 1, none⟩ = some (.int .i64 0) := hzb.at_ 1
     have z2 : w'.cell? ⟨g, 2, none⟩ = some (.string ⟨#[]⟩) := hzb.at_ 2
     have q0 := hzb.free 0
     have q1 := hzb.free 1
     have q2 := hzb.free 2
     clear hzb hz9
     rw [pin S.ha]
     go_simp
     exact S.kN 10 undef rfl rfl rfl (S.hI.ph.sto HP9.out (by decide) (by decide) h13 h17 S.h0 rfl _)
    refine SV rfl (fun _ _ _ _ _ S => ?_) ?_
    ·obtain ⟨_, _, _, _, _, _, _, _, u8, _, _, _, rfl⟩ := lenA12 S.hu
     obtain rfl : u8 = _ := S.q 8 rfl
     rw [pin S.ha]
     go_simp
     exact S.kS 11 _ rfl rfl rfl rfl (S.hI.ph.pure 11 _ (by decide))
    exact Steps.nil
   ·intro us wE hus dd hD2 hJ
    obtain ⟨p0, p1, p2, p3, p4, p5, p6, p7, p8, p9, p10, p11, rfl⟩ := lenA12 hus
    have hph := hJ.ph
    obtain rfl : p0 = _ := hJ.vq 0 rfl rfl hD2
    obtain rfl : p1 = _ := hJ.vq 1 rfl rfl hD2
    obtain rfl : p2 = _ := hJ.vq 2 rfl rfl hD2
    obtain rfl : p3 = _ := hJ.vq 3 rfl rfl hD2
    obtain rfl : p4 = _ := hJ.vq 4 rfl rfl hD2
    obtain rfl : p5 = _ := hJ.vq 5 rfl rfl hD2
    obtain rfl : p6 = _ := hJ.vq 6 rfl rfl hD2
    obtain rfl : p7 = _ := hJ.vq 7 rfl rfl hD2
    obtain rfl : p8 = _ := hJ.vq 8 rfl rfl hD2
    obtain rfl : p11 = _ := hJ.vq 11 rfl rfl hD2
    clear hJ
    obtain ⟨gv, hgv, hgl, -, hgb⟩ := hph.b (hD2 9 (by show 9 < 12; decide))
    replace hgv : p9 = .pointer (some ⟨gv, 0, none⟩) := hgv
    subst hgv
    have hgb := hgb (hD2 10 (by show 10 < 12; decide))
    have hdo := hph.s1 (hD2 5 (by show 5 < 12; decide))
    have hdo := HP9.out.excl _ (fun k => k = gv) _ hdo (fun k hk => .inl ⟨(hD2 9 (by show 9 < 12; decide)), by subst hk; rfl⟩)
    have HQ := Veil.mk (And.intro hdo (And.intro hgb hgl))
    clear hph hD2 hdo hgb hgl HP9 HC9 HWD
    simp only [puts, setAll, List.setIfInBounds_toArray, List.set_cons_zero, List.set_cons_succ]
    have HR7 := Veil.mk (And.intro (HQ.out.1.l _ (List.mem_cons_self ..)) (And.intro (HQ.out.1.l _ (List.mem_cons_of_mem _ (List.mem_cons_self ..))) HQ.out.1.s))
    have hsz9 : W.heap.size <= wE.heap.size := by
     have := HQ.out.2.1.lt
     have := HQ.out.2.2
     have := HZD.out
     omega
    clear HQ HXtb HXvb HZD
    go_wp2
    exact ⟨⟨j + 1, q + 1, by omega, by rw [HQE.out]; omega, by go_num, by go_num, HR7.out.2.2.excl (fun k hk => .inl (.inr (hk.elim (fun h => .inl h) (fun h => .inr (.inl h))))), HR7.out.1, HR7.out.2.1, hsz9⟩, by simp [intOf]; omega⟩
  ·obtain rfl : j = l.length := by omega
   have hlt' : ¬ ((l.length : Int) < (l.length : Int)) := by omega
   have c0 : wr.cell? ⟨tb, 0, none⟩ = some (.int .i64 fv.1) := hbt.at_ 0
   have c1 : wr.cell? ⟨tb, 1, none⟩ = some (.int .i64 fv.2.1) := hbt.at_ 1
   have c2 : wr.cell? ⟨tb, 2, none⟩ = some (.string fv.2.2) := hbt.at_ 2
   have HW9 := Veil.mk (AS.callB (fn := 364) (args := #[.pointer (some ⟨m, 0, none⟩), valV fv, .int .i64 (q : Int)]) (r := .returned (.tuple #[valV fv, .int .i64 0])) (L := [(tb, VTy, #[.int .i64 fv.1, .int .i64 fv.2.1, .string fv.2.2]), (rb, VTy, #[.int .i64 0, .int .i64 0, .string ⟨#[]⟩])]) hs (fun k hk => by rcases hk with rfl | rfl; exact hbt.lt; exact hbr.lt) hsz (fun q9 hq9 => by
    simp only [List.mem_cons, List.not_mem_nil, or_false] at hq9
    rcases hq9 with rfl | rfl
    ·exact ⟨.inl rfl, by show VTy ∈ kvL; decide, hbt⟩
    ·exact ⟨.inr rfl, by show VTy ∈ kvL; decide, hbr⟩) (Below.refl _ _) (fun V1 h1 _ => by rw [HQE.out]; exact HWL.out wr V1 h1))
   clear hs hbt hbr hsz hlt hj HPL HWL
   go_wp2_with (first | (go_at_call 364; ((with_reducible refine HW9.out.mono ?_); rintro e w4 ⟨rfl, hq4, -, -⟩; have HQ4 := Veil.mk (And.intro (hq4.l _ (List.mem_cons_of_mem _ (List.mem_cons_self ..))) hq4.s); clear hq4)) | (go_at_call 362; ((with_reducible refine (whole_any _ _).mono ?_); rintro e w5 ⟨rfl, hb5⟩; have hb45 := blw2 ((Below.refl _ _).alloc (Nat.le_refl _) _) hb5; have HR5 := Veil.mk (And.intro (HQ4.out.1.below hb45) (HQ4.out.2.on hb45)); clear hb5 hb45; have z0 : w5.cell? ⟨rb, 0, none⟩ = some (.int .i64 0) := HR5.out.1.at_ 0; have z1 : w5.cell? ⟨rb, 1, none⟩ = some (.int .i64 0) := HR5.out.1.at_ 1; have z2 : w5.cell? ⟨rb, 2, none⟩ = some (.string ⟨#[]⟩) := HR5.out.1.at_ 2; have q0 := HR5.out.1.free 0; have q1 := HR5.out.1.free 1; have q2 := HR5.out.1.free 2)))
   have hr3 := ((HR5.out.1.put 0 (.int .i64 3)).put 1 (.int .i64 (q : Int))).put 2 (.string ⟨#[]⟩)
   have y0 := hr3.at_ 0
   have y1 := hr3.at_ 1
   have y2 := hr3.at_ 2
   have hp3 := ((HR5.out.2.put HR5.out.1.lab (.inr (.inr rfl)) HLO.out.2 HA.out 0 (.int .i64 3)).put (HR5.out.1.put 0 _).lab (.inr (.inr rfl)) HLO.out.2 HA.out 1 (.int .i64 (q : Int))).put ((HR5.out.1.put 0 _).put 1 _).lab (.inr (.inr rfl)) HLO.out.2 HA.out 2 (.string ⟨#[]⟩)
   have hqn : ((q : Nat) : Int) = (n : Int) + (l.length : Int) := by rw [HQE.out]; omega
   refine bodyPost_ret (v := .tuple #[valV (3, (q : Int), ⟨#[]⟩), .int .i64 0]) (by simp [results, Tryz.results353, go_sem, y0, y1, y2]) rfl ⟨by rw [hqn], hp3.excl (fun k hk => hk.elim)⟩
end
section
variable {w W W' : World} {h A m ia b n n' : Nat} {ts : List TO} {E : Nat -> Prop} {xs ys : Nat -> Vt} {st st' : Int}
theorem push_hdF (L : LawT ts ia) (l : List Vt) (hn : n + l.length <= 500) (hs0 : 0 <= st) (hs1 : st + 1 + l.length < 4194304) (args : Value) (W1 : World) (f1 : MF) (V0 : Nat -> Prop) (fo : Nat) (hF : ∀ q : Nat, q < 500 -> ∀ w2, Below A W1 w2 -> Calls Tryz.prog 154 #[.int .i64 (q : Int), .int .i64 10] w2 fun e w3 => e = .returned (.string ⟨(dgs q).toArray⟩) /\ Below w2.heap.size w2 w3) (H : AS W1 h A m f1 ts ia b V0 n xs (fun _ => False) W1) (hov : f1.ov = false) (hst : f1.st = st + 1) (hr : RowV W1 args l) (hV : ∀ k, args.ownBlock = some k -> ¬ V0 k) :
  Calls Tryz.prog 348 #[.pointer (some ⟨m, 0, none⟩), .int .i64 (154 + ((0 : Nat) : Int)), callV fo (9, (ia : Int) + 1, ⟨#[]⟩) args (0, 0, ⟨#[]⟩)] W1 fun e w' => e = .returned (.tuple #[valV (3, (n : Int) + (l.length : Int), ⟨#[]⟩), .int .i64 0]) /\ AS W1 h A m { f1 with st := st + 1 + l.length } ts ia b V0 (n + l.length) (fun i => if i < n then xs i else lx l (i - n)) (fun _ => False) w' := by
 obtain ⟨t2, ht2, hp2⟩ := L.p2
 have hge := L.ge
 rw [<- hst]
 exact H.doPush L.lt fo (0, 0, ⟨#[]⟩) (3, (n : Int) + (l.length : Int), ⟨#[]⟩) 0 args ⟨fun w9 V1 hb hs hv => hs.pushF L.lt (by omega) ht2 hp2 L.len l hn (fun q hq w2 hb2 => hF q hq w2 ((hb.mono H.lt).trans hb2)) hov (by omega) (by omega) args (hr.on hb) (fun k hk h9 => (hv k h9).elim (fun h8 => hV k hk h8) (fun h8 => by
  obtain ⟨ao, cap, e, -, -, hg⟩ := hr
  subst e
  cases ao with
  | none => cases hk
  | some ad =>
   obtain ⟨g, e2, hl, -⟩ := hg ad rfl
   injection hk with hk
   have := lab_lt hl
   subst e2
   have hk : g = k := hk
   omega))⟩
end
section
variable {W w w' w0 : World} {h A m ia b n n' : Nat} {f f2 : MF} {ts : List TO} {V0 E K : Nat -> Prop} {xs ys : Nat -> Vt} {st st' : Int}
set_option maxRecDepth 100000 in
set_option maxHeartbeats 16000000 in
theorem AS.pop0 (H : AS W h A m f ts ia b V0 0 xs (fun _ => False) W) (hia : ia < ts.length) :
  Calls Tryz.prog 354 #[.pointer (some ⟨m, 0, none⟩), .pointer (some ⟨b, 0, none⟩)] W fun e w' => e = .returned (.tuple #[valV zV, .int .i64 0]) /\ AS W h A m f ts ia b V0 0 xs (fun _ => False) w' := by
 have HA : Veil (A <= W.heap.size) := ⟨H.lt⟩
 obtain ⟨rb, hrb⟩ : ∃ rb, W.heap.size = rb := ⟨_, rfl⟩
 obtain ⟨W0, hW0⟩ : ∃ W0, (W.alloc (.cells #[.int .i64 0, .int .i64 0, .string ⟨#[]⟩] 28)) = W0 := ⟨_, rfl⟩
 have bb : Below W.heap.size W W0 := by rw [<- hW0]; exact ((Below.refl _ _).alloc (Nat.le_refl _) _)
 have xrb : Box W0 rb 28 #[.int .i64 0, .int .i64 0, .string ⟨#[]⟩] := by have h9 := Box.new W 28 #[.int .i64 0, .int .i64 0, .string ⟨#[]⟩]; rw [hW0, hrb] at h9; exact h9
 have HW0 := Veil.mk (And.intro hW0 (hrb))
 have HBB := Veil.mk (And.intro bb (xrb))
 have HLO : Veil (W.heap.size <= rb) := ⟨by omega⟩
 clear hW0 bb hrb xrb
 have HS0 := Veil.mk (((H.excl (E' := fun k => W.heap.size <= k) (fun k hk => .inr hk)).on HBB.out.1).excl (E' := fun k => k = rb) (fun k hk => .inl (by rw [hk]; exact HLO.out)))
 have HC : Veil (∃ ao cap, W0.cell? ⟨b, 2, none⟩ = some (.bool false) /\ W0.cell? ⟨b, 4, none⟩ = some (.slice ao 0 cap)) := ⟨by
  obtain ⟨ev, xs0, h1, h2, h3, -⟩ := H.x
  have hbx := (h1.mem_b (List.mem_of_getElem? (List.getElem?_set_self hia)) rfl).below HBB.out.1
  obtain ⟨ao, cap, e⟩ := h2.evs
  exact ⟨ao, cap, hbx.at_ 2, by rw [<- e]; exact hbx.at_ 4⟩⟩
 obtain ⟨ao, cap, d2, d4⟩ := HC.out
 clear H HC hia
 go_enter Tryz.func354, Tryz.ntmps354
 go_upto_region 1 with (fail)
 rw [HW0.out.1, HW0.out.2]
 have q0 := HBB.out.2.free 0
 have q1 := HBB.out.2.free 1
 have q2 := HBB.out.2.free 2
 have z0 : W0.cell? ⟨rb, 0, none⟩ = some (.int .i64 0) := HBB.out.2.at_ 0
 have z1 : W0.cell? ⟨rb, 1, none⟩ = some (.int .i64 0) := HBB.out.2.at_ 1
 have z2 : W0.cell? ⟨rb, 2, none⟩ = some (.string ⟨#[]⟩) := HBB.out.2.at_ 2
 go_wp2
 have hr3 := ((HBB.out.2.put 0 (.int .i64 0)).put 1 (.int .i64 0)).put 2 (.string ⟨#[]⟩)
 have y0 := hr3.at_ 0
 have y1 := hr3.at_ 1
 have y2 := hr3.at_ 2
 have hp3 := ((HS0.out.put HBB.out.2.lab rfl HLO.out HA.out 0 (.int .i64 0)).put (HBB.out.2.put 0 _).lab rfl HLO.out HA.out 1 (.int .i64 0)).put ((HBB.out.2.put 0 _).put 1 _).lab rfl HLO.out HA.out 2 (.string ⟨#[]⟩)
 exact bodyPost_ret (v := .tuple #[valV zV, .int .i64 0]) (by simp [results, Tryz.results354, go_sem, y0, y1, y2]) rfl ⟨rfl, hp3.excl (fun k hk => hk.elim)⟩
theorem pop_hd0 (L : LawT ts ia) (args : Value) (W1 : World) (f1 : MF) (V0 : Nat -> Prop) (fo : Nat) (H : AS W1 h A m f1 ts ia b V0 0 xs (fun _ => False) W1) (hst : f1.st = st + 1) :
  Calls Tryz.prog 348 #[.pointer (some ⟨m, 0, none⟩), .int .i64 155, callV fo (9, (ia : Int) + 1, ⟨#[]⟩) args (0, 0, ⟨#[]⟩)] W1 fun e w' => e = .returned (.tuple #[valV zV, .int .i64 0]) /\ AS W1 h A m { f1 with st := st + 1 } ts ia b V0 0 xs (fun _ => False) w' := by
 have e : ({ f1 with st := st + 1 } : MF) = f1 := by rw [<- hst]
 rw [e]
 exact H.doPop L.lt fo (0, 0, ⟨#[]⟩) zV 0 args ⟨fun w9 V1 hb hs hv => hs.pop0 L.lt⟩
end
section
variable {w W W' : World} {h A m ia b n : Nat} {ts : List TO} {E : Nat -> Prop} {xs ys : Nat -> Vt} {st st' : Int}
theorem LS.ask_push (H : LS w h A m ts ia b n xs st E W) (L : LawT ts ia) (hT : Lib.TabIs Tryz.prog w "internal/strconv.uint64pow10" .u64 Lib.pow10Tab) (hE : ∀ k, E k -> k < W.heap.size) (hs0 : 0 <= st) (hs1 : st < 4000000) (hn : n + 1 <= 500) (x : Vt) (args : Value) (hr : RowV W args [x]) (hgE : ∀ k, args.ownBlock = some k -> E k) :
  Calls Tryz.prog 20 #[.pointer (some ⟨m, 0, none⟩), valV (9, (ia : Int) + 1, ⟨#[]⟩), .string ⟨#[112, 117, 115, 104]⟩, args] W fun e w' => e = .returned (.tuple #[valV (3, (n : Int) + 1, ⟨#[]⟩), .int .i64 0]) /\ LT w h A m ia b (n + 1) (fun i => if i < n then xs i else x) (st + 2) (fun ts1 => ts1 = ts) E w' /\ (∀ b t c, t ∈ kvL -> E b -> Box W b t c -> Box w' b t c) /\ W.heap.size <= w'.heap.size := by
 have hB := H.bel.size
 refine ask_gen LS.cl1 LT.cl H hB hE (9, (ia : Int) + 1, ⟨#[]⟩) (9, 27, ⟨#[]⟩) _ 0 ⟨#[112, 117, 115, 104]⟩ args (fun w9 hb => (H.on hb).member L 0 (by decide)) (fun w9 E' H9 hE9 hEE hb9 => ?_)
 have key := H9.callT L hE9 hs0 (by omega) 4 (by decide) (9, (ia : Int) + 1, ⟨#[]⟩) args [x] (hr.on hb9) (by show 1 <= 1000; decide) (fun k hk => hEE k (hgE k hk)) (3, (n : Int) + 1, ⟨#[]⟩) 0 (st' := st + 2) (n' := n + 1) (ys := fun i => if i < n then xs i else x) (fun ts1 => ts1 = ts) (fun W1 f1 V0 fo hbw has hov hst _ _ hr1 hV => ?_)
 ·exact key
 have key := push_hdF L [x] (by show n + 1 <= 500; omega) hs0 (by show st + 1 + ((1 : Nat) : Int) < 4194304; omega) args W1 f1 V0 fo (fun q hq w2 hb2 => fmt_all q hq w2 (Lib.tabBelow_of_tabIs hT w2 (hbw.trans (hb2.mono H.lo)))) has hov hst hr1 hV
 refine key.mono ?_
 rintro e w' ⟨he, hq⟩
 refine ⟨he, ts, rfl, ?_⟩
 have e2 : st + 1 + (([x] : List Vt).length : Int) = st + 2 := by show st + 1 + ((1 : Nat) : Int) = st + 2; omega
 rw [e2] at hq
 refine hq.congr (fun i hi => ?_)
 show (if i < n then xs i else lx [x] (i - n)) = if i < n then xs i else x
 by_cases hin : i < n
 ·rw [if_pos hin, if_pos hin]
 ·rw [if_neg hin, if_neg hin]
  have hi' : i < n + 1 := hi
  rw [show i - n = 0 by omega]
  rfl
theorem LS.ask_pop (H : LS w h A m ts ia b (n + 1) xs st E W) (L : LawT ts ia) (hE : ∀ k, E k -> k < W.heap.size) (hs0 : 0 <= st) (hs1 : st < 4000000) (hn : n <= 10000) :
  Calls Tryz.prog 20 #[.pointer (some ⟨m, 0, none⟩), valV (9, (ia : Int) + 1, ⟨#[]⟩), .string ⟨#[112, 111, 112]⟩, .slice none 0 0] W fun e w' => e = .returned (.tuple #[valV (uh (xs n)), .int .i64 0]) /\ LT w h A m ia b n xs (st + 1) (fun ts1 => ts1 = ts) E w' /\ (∀ b t c, t ∈ kvL -> E b -> Box W b t c -> Box w' b t c) /\ W.heap.size <= w'.heap.size := by
 have hB := H.bel.size
 refine ask_gen LS.cl1 LT.cl H hB hE (9, (ia : Int) + 1, ⟨#[]⟩) (9, 28, ⟨#[]⟩) _ 0 ⟨#[112, 111, 112]⟩ (.slice none 0 0) (fun w9 hb => (H.on hb).member L 1 (by decide)) (fun w9 E' H9 hE9 hEE hb9 => ?_)
 have key := H9.callT L hE9 hs0 (by omega) 5 (by decide) (9, (ia : Int) + 1, ⟨#[]⟩) (.slice none 0 0) [] (RowV.nil _) (by decide) (fun k hk => by cases hk) (uh (xs n)) 0 (st' := st + 1) (n' := n) (ys := xs) (fun ts1 => ts1 = ts) (fun W1 f1 V0 fo _ has hov hst _ _ hr1 hV => ?_)
 ·exact key
 refine (pop_hd L hn (.slice none 0 0) [] W1 f1 V0 fo has hov hst hr1 hV).mono ?_
 rintro e w' ⟨he, hq⟩
 exact ⟨he, ts, rfl, hq⟩
theorem LS.ask_pop0 (H : LS w h A m ts ia b 0 xs st E W) (L : LawT ts ia) (hE : ∀ k, E k -> k < W.heap.size) (hs0 : 0 <= st) (hs1 : st < 4000000) :
  Calls Tryz.prog 20 #[.pointer (some ⟨m, 0, none⟩), valV (9, (ia : Int) + 1, ⟨#[]⟩), .string ⟨#[112, 111, 112]⟩, .slice none 0 0] W fun e w' => e = .returned (.tuple #[valV zV, .int .i64 0]) /\ LT w h A m ia b 0 xs (st + 1) (fun ts1 => ts1 = ts) E w' /\ (∀ b t c, t ∈ kvL -> E b -> Box W b t c -> Box w' b t c) /\ W.heap.size <= w'.heap.size := by
 have hB := H.bel.size
 refine ask_gen LS.cl1 LT.cl H hB hE (9, (ia : Int) + 1, ⟨#[]⟩) (9, 28, ⟨#[]⟩) _ 0 ⟨#[112, 111, 112]⟩ (.slice none 0 0) (fun w9 hb => (H.on hb).member L 1 (by decide)) (fun w9 E' H9 hE9 hEE hb9 => ?_)
 have key := H9.callT L hE9 hs0 (by omega) 5 (by decide) (9, (ia : Int) + 1, ⟨#[]⟩) (.slice none 0 0) [] (RowV.nil _) (by decide) (fun k hk => by cases hk) zV 0 (st' := st + 1) (n' := 0) (ys := xs) (fun ts1 => ts1 = ts) (fun W1 f1 V0 fo _ has hov hst _ _ hr1 hV => ?_)
 ·exact key
 refine (pop_hd0 L (.slice none 0 0) W1 f1 V0 fo has hst).mono ?_
 rintro e w' ⟨he, hq⟩
 exact ⟨he, ts, rfl, hq⟩
def LN (w : World) (h A m ia b n : Nat) (xs : Nat -> Vt) (st : Int) (ts : List TO) (kd : Int) (E : Nat -> Prop) (w' : World) : Prop := ∃ o g, ¬ E g /\ LS w h A m (ts ++ [TO.wkr o kd (.slice (some ⟨g, 0, none⟩) 1 1) 0]) ia b n xs st (fun k => E k \/ k = g) w' /\ Box w' g VTy #[.int .i64 9, .int .i64 ((ia : Int) + 1), .string ⟨#[]⟩]
theorem LN.cl {kd : Int} : StP w.heap.size (LN w h A m ia b n xs st ts kd) :=
 ⟨fun ⟨o, g, a, b, c⟩ hb => ⟨o, g, a, b.on hb, c.below hb⟩,
  fun ⟨o, g, a, b, c⟩ hE => ⟨o, g, fun h9 => (hE g h9).elim a (fun h8 => by have := c.lt; omega), b.excl (fun k hk => hk.elim (fun h9 => (hE k h9).imp .inl (fun h => h)) (fun h9 => .inl (.inr h9))), c⟩,
  fun ⟨o, g, a, b, c⟩ hl hg hn i u => ⟨o, g, a, b.put hl (.inl hg) hn i u, c.touch (Touch.put (S := fun k => k = _) rfl _ _) (fun e => a (by rw [e]; exact hg))⟩⟩
set_option maxHeartbeats 2000000 in
theorem LS.callW {kd : Int} (H : LS w h A m ts ia b n xs st E W) (L : LawT ts ia) (hl9 : ts.length < 99999) (hE : ∀ k, E k -> k < W.heap.size) (hs0 : 0 <= st) (hs1 : st < 4194304) (jf : Nat) (hjf : jf < 15)
  (HD : ∀ W1 f1 fo ev, MP W1 h A m f1 (ts.set ia (TO.arr b 3 ev)) -> (∀ k, f1 k = mfW k) -> Calls Tryz.prog 348 #[.pointer (some ⟨m, 0, none⟩), .int .i64 (150 + (jf : Int)), callV fo (9, (ia : Int) + 1, ⟨#[]⟩) (.slice none 0 0) (0, 0, ⟨#[]⟩)] W1 fun e w' => e = .returned (.tuple #[valV (9, (ts.length : Int) + 1, ⟨#[]⟩), .int .i64 0]) /\ ∃ o g, MP w' h A m f1 (ts.set ia (TO.arr b 3 ev) ++ [TO.wkr o kd (.slice (some ⟨g, 0, none⟩) 1 1) 0]) /\ Box w' g VTy #[.int .i64 9, .int .i64 ((ia : Int) + 1), .string ⟨#[]⟩] /\ W1.heap.size <= g /\ Bk A W1 w') :
  Calls Tryz.prog 28 #[.pointer (some ⟨m, 0, none⟩), valV (9, 23 + (jf : Int), ⟨#[]⟩), valV (9, (ia : Int) + 1, ⟨#[]⟩), .slice none 0 0] W fun e w' => e = .returned (.tuple #[valV (9, (ts.length : Int) + 1, ⟨#[]⟩), .int .i64 0]) /\ LN w h A m ia b n xs (st + 1) ts kd E w' /\ (∀ b t c, t ∈ kvL -> E b -> Box W b t c -> Box w' b t c) /\ W.heap.size <= w'.heap.size := by
 obtain ⟨ev, na, ca, xs0, h1, h2, h3, h4, h5, h6⟩ := H.x
 obtain ⟨t, ht, c1, c2, c3⟩ := L.fn jf hjf
 have hge := L.ge
 have hlt := L.lt
 have hA := Nat.le_of_lt h1.mm.alt
 have ht' : (ts.set ia (TO.arr b 3 ev))[22 + jf]? = some t := by rw [List.getElem?_set_ne (by omega)]; exact ht
 have hR : RStay A (fun D ts2 st2 w9 => ∃ o g, ts2 = (ts ++ [TO.wkr o kd (.slice (some ⟨g, 0, none⟩) 1 1) 0]).set ia (TO.arr b 3 ev) /\ EL w9 A ev n xs0 /\ st2 = st + 1 /\ Box w9 g VTy #[.int .i64 9, .int .i64 ((ia : Int) + 1), .string ⟨#[]⟩] /\ D g /\ W.heap.size <= g /\ (∀ k, ev.ownBlock = some k -> D k)) := fun D ts2 st2 w1 w2 V' hq hbv hn => by
  obtain ⟨o, g, e1, e2, e3, e4, e5, e6, e7⟩ := hq
  exact ⟨o, g, e1, e2.bv hbv (fun k hk => hn k (e7 k hk)), e3, hbv.box e4 (by decide) (hn g e5), e5, e6, e7⟩
 have key := h1.call h4 rfl hs0 hs1 (by show (0 : Int) <= 0; decide) (by show (0 : Int) < 20; decide) (by rw [List.length_set]; exact L.len) ht' c1 (decide (jf = 0)) c2 (150 + (jf : Int)) c3 (9, (ia : Int) + 1, ⟨#[]⟩) (9, (ts.length : Int) + 1, ⟨#[]⟩) 0 (.slice none 0 0) none 0 0 rfl (by decide) (fun k => ev.ownBlock = some k) (fun k hk => ⟨(h2.own_lt k hk).2.1, (h5 k hk).1⟩) _ hR ⟨fun W1 f1 g1 g2 g3 g4 => by
  obtain ⟨na1, ca1, hf1⟩ := g2
  have hel1 : EL W1 A ev n xs0 := h2.bv g3 (fun k hk => (h5 k hk).1)
  refine (HD W1 f1 t.b ev g1 (fun k => by rw [hf1])).mono ?_
  rintro e w9 ⟨he, o, g, q1, q2, q3, q4⟩
  have hel9 : EL w9 A ev n xs0 := hel1.bv (q4.bv (fun _ => False)) (fun k _ h => h)
  rw [<- List.set_append_left _ _ hlt] at q1
  refine ⟨he, _, _, fun k => ev.ownBlock = some k \/ k = g, q1, q4.bv _, ⟨o, g, rfl, hel9, by rw [hf1], q2, .inr rfl, Nat.le_trans g3.bel.size q3, fun k hk => .inl hk⟩, fun k hk => ?_⟩
  rcases hk with hk | hk
  ·exact ⟨(hel9.own_lt k hk).2.1, fun h => h, .inl hk⟩
  ·exact ⟨by rw [hk]; exact q2.lt, fun h => h, .inr (by rw [hk]; exact q3)⟩⟩
 rw [show ((22 + jf : Nat) : Int) + 1 = 23 + (jf : Int) by omega] at key
 refine key.mono ?_
 rintro e w9 ⟨he, hq⟩
 obtain ⟨ts2, st2, D, f2, q1, ⟨na2, ca2, q2⟩, q3, q4, q5, ⟨o, g, r1, r2, r3, r4, r5, r6, r7⟩, q7⟩ := hq.x
 subst r1 r3 q2
 have hgE : ¬ E g := fun h9 => by have := hE g h9; omega
 have hgo : ∀ k, ev.ownBlock = some k -> k ≠ g := fun k hk e9 => by have := (h2.own_lt k hk).2.1; omega
 refine ⟨he, ⟨o, g, hgE, ⟨⟨ev, na2, ca2, xs0, q1, r2, h3, q3, fun k hk => ⟨(q7 k (r7 k hk)).2.1, fun h9 => ?_⟩, fun k hk h9 => ?_⟩, H.bel.trans (q5.bel.mono H.lo), H.lo⟩, r4⟩, fun b t c hT hg hbx => q5.box hbx hT (fun h9 => h9.elim (fun h8 => (h5 b h8).2 hg) (fun h8 => h6 b h8 hg)), q5.bel.size⟩
 ·rcases h9 with h9 | h9
  ·exact (h5 k hk).2 h9
  ·exact hgo k hk h9
 ·rcases h9 with h9 | h9
  ·rcases (q4 k hk).1 with h8 | h8
   ·exact h6 k h8 h9
   ·have := hE k h9
    omega
  ·exact (q7 g r5).2.1 (by rw [<- h9]; exact hk)
theorem LS.ask_values (H : LS w h A m ts ia b n xs st E W) (L : LawT ts ia) (hl9 : ts.length < 99999) (hE : ∀ k, E k -> k < W.heap.size) (hs0 : 0 <= st) (hs1 : st < 4000000) :
  Calls Tryz.prog 20 #[.pointer (some ⟨m, 0, none⟩), valV (9, (ia : Int) + 1, ⟨#[]⟩), .string ⟨#[118, 97, 108, 117, 101, 115]⟩, .slice none 0 0] W fun e w' => e = .returned (.tuple #[valV (9, (ts.length : Int) + 1, ⟨#[]⟩), .int .i64 0]) /\ LN w h A m ia b n xs (st + 1) ts 2 E w' /\ (∀ b t c, t ∈ kvL -> E b -> Box W b t c -> Box w' b t c) /\ W.heap.size <= w'.heap.size := by
 have hB := H.bel.size
 refine ask_gen LS.cl1 LN.cl H hB hE (9, (ia : Int) + 1, ⟨#[]⟩) (9, 29, ⟨#[]⟩) _ 0 ⟨#[118, 97, 108, 117, 101, 115]⟩ (.slice none 0 0) (fun w9 hb => (H.on hb).member L 2 (by decide)) (fun w9 E' H9 hE9 hEE hb9 => ?_)
 refine H9.callW L hl9 hE9 hs0 (by omega) 6 (by decide) (fun W1 f1 fo ev hm hpr => ?_)
 have hlt := L.lt
 have hge := L.ge
 have key := hm.doValues (hpr 11) (by rw [List.length_set]; exact hl9) (List.getElem?_set_self hlt) fo (0, 0, ⟨#[]⟩) (.slice none 0 0)
 rw [List.length_set] at key
 exact key
end
end Go.Proofs.YtahkohfppakaiaaGreatDoor
namespace Go.Proofs.YtahkohfppakaiaaGreatDoor
open Go Go.RowKit
structure BW (W : World) where
 w : World
 h : Below W.heap.size W w
theorem BW.ne (W : World) : Nonempty (BW W) := ⟨⟨W, Below.refl _ _⟩⟩
theorem BW.ex {W w' : World} (h : Below W.heap.size W w') : ∃ z : BW W, w' = z.w := ⟨⟨w', h⟩, rfl⟩
theorem BW.on {W : World} {P : Program} {f : FuncId} {av : Array Value} {v : Value} (z : BW W) (h : Calls P f av z.w fun e w' => e = .returned v /\ Below z.w.heap.size z.w w') : Calls P f av z.w fun e w' => e = .returned v /\ ∃ z' : BW W, w' = z'.w :=
 h.mono fun _ _ ⟨he, hb⟩ => ⟨he, BW.ex (z.h.trans (hb.mono z.h.size))⟩
theorem wp_region_below {P : Program} {id : Nat} {Q : Exit -> Act -> World -> Prop} {a : Act} {w : World} {l : List Oper} (hm : P.follows .mixedOrders = true) (hB : Region.lexB .any l.toArray = true)
  (h : wpQuiet P l.toArray (fun w' => ∃ z : BW w, w' = z.w) (fun a' => ∀ w', (∃ z : BW w, w' = z.w) -> Q .normal a' w') l a) : (Code.region id l.toArray true).wp P Q a w :=
 wp_region_quiet (C := fun w' => ∃ z : BW w, w' = z.w) hm hB (BW.ex (Below.refl _ _).drew) (by simpa using h)
end Go.Proofs.YtahkohfppakaiaaGreatDoor
namespace Go.Proofs.YtahkohfppakaiaaGreatDoor.W
open Go Go.RowKit
attribute [local go_sem] Oper.semAt_some
theorem own_drew {w : World} {base : Nat} {e : TypeId} {size : Nat} {v : Value} {n : Nat} {xs : List Value} (h : w.ownsRow base e size v n xs) : w.drew.ownsRow base e size v n xs := h
theorem cells_drew {w : World} {a : Addr} {cs : List Value} (h : ∀ j u, cs[j]? = some u -> w.cell? (a.add j) = some u) : ∀ j u, cs[j]? = some u -> w.drew.cell? (a.add j) = some u := h
end Go.Proofs.YtahkohfppakaiaaGreatDoor.W
namespace Go.Proofs.YtahkohfppakaiaaGreatDoor
open Go Go.RowKit
attribute [local go_sem] Oper.semAt_some
theorem MC.on {w w1 w2 : World} {h A m : Nat} {ts : List TO} (H : MC w h A m ts w1) (hb : Below w1.heap.size w1 w2) : MC w h A m ts w2 := ⟨⟨H.s.mp.on hb, Bk.of_below (Nat.le_of_lt (H.s.mp.on hb).mm.alt) (Below.refl _ _), H.s.len, H.s.pl, H.s.p2, H.s.p11, H.s.fn⟩, H.bel.trans (hb.mono H.bel.size), H.lo⟩
section
variable {w W : World} {h A m : Nat} {ts : List TO}
theorem MC.array38 (H : MC w h A m ts W) (E : Nat -> Prop) (hE : ∀ k, E k -> k < W.heap.size) (sv : Value) (l : List Vt) (hr : RowV W sv l) (hl : l.length <= 10000) :
  Calls Tryz.prog 11 #[.pointer (some ⟨m, 0, none⟩), sv] W fun e w' => e = .returned (valV (9, 38, ⟨#[]⟩)) /\ ∃ b ts', ts'.length = 38 /\ (∃ t, ts'[0]? = some t /\ PlT t 0 []) /\ (∃ t, ts'[11]? = some t /\ PlT t 0 e11W) /\ LawT ts' 37 /\ LS w h A m ts' 37 b l.length (lx l) 0 E w' /\ (∀ g T cs, T ∈ kvL -> Box W g T cs -> Box w' g T cs) /\ W.heap.size <= w'.heap.size := by
 have hlen : ts.length = 37 := H.s.len
 have key := H.s.mp.arrayE sv l hr hl (by omega)
 rw [hlen] at key
 refine key.mono ?_
 rintro e w' ⟨he, b, ev, h1, ⟨-, h2⟩, h3, h4⟩
 have hw : (ts ++ [TO.arr b 3 ev]).set 37 (TO.arr b 3 ev) = ts ++ [TO.arr b 3 ev] := by
  rw [List.set_append_right 37 _ (by omega), hlen]
  rfl
 have hge : ∀ k t, k < 37 -> ts[k]? = some t -> (ts ++ [TO.arr b 3 ev])[k]? = some t := fun k t hk hg => by rw [List.getElem?_append_left (by omega)]; exact hg
 refine ⟨he, b, ts ++ [TO.arr b 3 ev], by rw [List.length_append, hlen]; rfl, (by obtain ⟨t, a1, a2⟩ := H.s.pl 0 (by decide) (by decide) (by decide); exact ⟨t, hge 0 t (by decide) a1, a2⟩), (by obtain ⟨t, a1, a2⟩ := H.s.p11; exact ⟨t, hge 11 t (by decide) a1, a2⟩), ⟨by rw [List.length_append, hlen]; show 38 < 100000; decide, by rw [List.length_append, hlen]; show 37 < 38; decide, by decide, ?_, fun j hj => ?_⟩, ⟨⟨ev, .slice none 0 0, .slice none 0 0, lx l, by rw [hw]; exact h1, h2, fun _ _ => rfl, ⟨⟨by simp, .inl ⟨rfl, rfl⟩⟩, ⟨by simp, .inl ⟨rfl, rfl⟩⟩⟩, fun k hk => ⟨fun h9 => ?_, fun h9 => ?_⟩, fun k hk => ?_⟩, H.bel.trans (h3.bel.mono H.lo), H.lo⟩, fun g T cs hT hbx => h3.boxE hbx hT, h3.bel.size⟩
 ·obtain ⟨t2, ht2, hp2⟩ := H.s.p2
  exact ⟨t2, hge 2 t2 (by decide) ht2, hp2⟩
 ·obtain ⟨t, ht, ⟨c1, c2, c3, c4⟩, -⟩ := H.s.fn j hj
  exact ⟨t, hge _ t (by omega) ht, c1, c3, by rw [c4]⟩
 ·rcases h9 with h9 | h9 <;> cases h9
 ·obtain ⟨ao, cap, e⟩ := h2.evs
  subst e
  cases ao with
  | none => cases hk
  | some ad =>
   have := h4 ad _ _ rfl
   have := hE k h9
   injection hk with hk
   have hk : ad.block = k := by
    first
     | exact hk
     | (split at hk <;> first | (injection hk) | cases hk)
   omega
 ·rcases hk with hk | hk <;> cases hk
end
structure BC (WD : World) (P : World -> Prop) (cs : Array Value) (ir ic : Nat) (d : Nat -> Bool) (us : Nat -> Value) (w : World) : Prop where
 s0 : d ic = false -> Below WD.heap.size WD w
 s1 : d ic = true -> P w
 r : d ir = true -> d ic = false -> ∃ g, us ir = .slice (some ⟨g, 0, none⟩) 1 1 /\ WD.heap.size <= g /\ Box w g VTy cs
 sz : WD.heap.size <= w.heap.size
section
variable {WD w w' : World} {P : World -> Prop} {cs : Array Value} {ir ic : Nat} {d : Nat -> Bool} {us : Nat -> Value}
theorem BC.quiet (H : BC WD P cs ir ic d us w) (hP : ∀ w w', P w -> Below w.heap.size w w' -> P w') (i : Nat) (v : Value) (hi : i ≠ ic /\ i ≠ ir) (hb : Below w.heap.size w w') : BC WD P cs ir ic (upd d i true) (upd us i v) w' := by
 refine ⟨fun e => ?_, fun e => ?_, fun e1 e2 => ?_, Nat.le_trans H.sz hb.size⟩
 ·rw [upd_ne _ _ (Ne.symm hi.1)] at e
  exact (H.s0 e).trans (hb.mono H.sz)
 ·rw [upd_ne _ _ (Ne.symm hi.1)] at e
  exact hP _ _ (H.s1 e) hb
 ·rw [upd_ne _ _ (Ne.symm hi.2)] at e1
  rw [upd_ne _ _ (Ne.symm hi.1)] at e2
  rw [upd_ne _ _ (Ne.symm hi.2)]
  obtain ⟨g, a, b, c⟩ := H.r e1 e2
  exact ⟨g, a, b, c.below hb⟩
theorem BC.row (H : BC WD P cs ir ic d us w) (hi : ir ≠ ic) (h0 : d ic = false) : BC WD P cs ir ic (upd d ir true) (upd us ir (.slice (some ⟨w.heap.size, 0, none⟩) 1 1)) (w.alloc (.cells cs VTy)) := by
 have hb : Below w.heap.size w (w.alloc (.cells cs VTy)) := (Below.refl _ _).alloc (Nat.le_refl _) _
 refine ⟨fun e => ?_, fun e => ?_, fun _ _ => ⟨w.heap.size, upd_same _ _ _, H.sz, Box.new w VTy cs⟩, Nat.le_trans H.sz hb.size⟩
 ·exact (H.s0 h0).trans (hb.mono H.sz)
 ·rw [upd_ne _ _ (Ne.symm hi), h0] at e
  cases e
theorem BC.call (H : BC WD P cs ir ic d us w) (hq : P w') (hs : w.heap.size <= w'.heap.size) (v : Value) : BC WD P cs ir ic (upd d ic true) (upd us ic v) w' :=
 ⟨fun e => (by rw [upd_same] at e; cases e), fun _ => hq, fun _ e2 => (by rw [upd_same] at e2; cases e2), Nat.le_trans H.sz hs⟩
theorem BC.start : BC WD P cs ir ic (fun _ => false) us WD := ⟨fun _ => Below.refl _ _, fun e => (by cases e), fun e => (by cases e), Nat.le_refl _⟩
end
def IntsL (w : World) (a : Option Addr) (n : Nat) (l : List Int) : Prop := l.length = n /\ (0 < n -> ∃ b o, a = some ⟨b, o, none⟩ /\ b < w.heap.size /\ ∀ i, i < n -> w.cell? ⟨b, o + i, none⟩ = some (.int .i64 (l[i]?.getD 0)))
structure LVS (w : World) (h A m b g o ab wb : Nat) (fa fw : Vt) (j at_ : Nat) (dn : Bool) (nx : Nat) (wr : World) : Prop where
 x : ∃ ts n xs st, LS w h A m ts 37 b n xs st (fun k => k = ab \/ k = wb \/ k = g) wr /\ LawT ts 37 /\ (dn = false -> LawW ts 38 o 2 (.slice (some ⟨g, 0, none⟩) 1 1) (at_ : Int)) /\ (dn = true -> ∃ p, LawW ts 38 o 2 (.slice none 0 0) p) /\ ts.length <= 39 + j /\ n <= 3 + j /\ 0 <= st /\ st <= 1 + 2 * (j : Int) /\ ∀ i, i < n -> (xs i).1 ≠ 10
 ab : Box wr ab VTy #[.int .i64 fa.1, .int .i64 fa.2.1, .string fa.2.2]
 wb : Box wr wb VTy #[.int .i64 fw.1, .int .i64 fw.2.1, .string fw.2.2]
 g : Box wr g VTy #[.int .i64 9, .int .i64 (((37 : Nat) : Int) + 1), .string ⟨#[]⟩]
 at_ : at_ <= j
 nx : nx <= 3 + j
 lo : w.heap.size <= wr.heap.size
theorem live_law_long (w : World) (a : Option Addr) (n cap : Nat) (hT : Lib.TabIs Tryz.prog w "strings.asciiSpace" .u8 Lib.asciiSpaceTab) (h5 : 100 < n) :
  Calls Tryz.prog 5 #[.slice a n cap] w fun e w' => e = .returned (.bool true) /\ Below w.heap.size w w' := by
 have HF := Veil.mk (fit_any w hT)
 have h5i : (100 : Int) < (n : Int) := by omega
 clear hT
 go_enter Tryz.func5, Tryz.ntmps5
 go_wp2_with (go_at_call 8; ((with_reducible refine HF.out.mono ?_); rintro e w1 ⟨rfl, hb1⟩; have HB1 := Veil.mk hb1; clear hb1))
 go_ret
 exact ⟨rfl, HB1.out⟩
theorem rem4 (k : Int) : ∃ c : Nat, c < 4 /\ IntKind.i64.wrap (IntKind.i64.wrap (k.tmod 4) + 4) = IntKind.i64.wrap (k.tmod 4) + 4 /\ (IntKind.i64.wrap (k.tmod 4) + 4).tmod 4 = (c : Int) /\ IntKind.i64.wrap (k.tmod 4) = k.tmod 4 := by
 have h1 : -4 < k.tmod 4 := by have := Int.lt_tmod_of_pos k (show (0 : Int) < 4 by decide); omega
 have h2 : k.tmod 4 < 4 := Int.tmod_lt_of_pos k (by decide)
 have e1 : IntKind.i64.wrap (k.tmod 4) = k.tmod 4 := IntWalk.i64_in _ (by omega)
 rw [e1]
 have h3 : 0 <= (k.tmod 4 + 4).tmod 4 := Int.tmod_nonneg _ (by omega)
 have h4 : (k.tmod 4 + 4).tmod 4 < 4 := Int.tmod_lt_of_pos _ (by decide)
 exact ⟨((k.tmod 4 + 4).tmod 4).toNat, by omega, IntWalk.i64_in _ (by omega), by omega, rfl⟩
set_option maxRecDepth 100000 in
set_option maxHeartbeats 8000000 in
theorem live_law_short (w : World) (a : Option Addr) (cap : Nat) (l : List Int) (hN : IntsL w a l.length l) (hT : Lib.TabIs Tryz.prog w "strings.asciiSpace" .u8 Lib.asciiSpaceTab) (hP : Lib.TabIs Tryz.prog w "internal/strconv.uint64pow10" .u64 Lib.pow10Tab) (hlen : l.length <= 100) :
  Calls Tryz.prog 5 #[.slice a l.length cap] w fun e w' => e = .returned (.bool true) /\ Below w.heap.size w w' := by
 have HF := Veil.mk (fit_any w hT)
 have HT := Veil.mk (And.intro hT hP)
 have HN := Veil.mk hN
 obtain ⟨n, hn⟩ : ∃ n, l.length = n := ⟨_, rfl⟩
 have HNL := Veil.mk hn
 have h5i : ¬ (100 : Int) < (n : Int) := by omega
 have hn5 : n <= 100 := by omega
 clear hT hP hN hlen
 rw [hn]
 clear hn
 go_enter Tryz.func5, Tryz.ntmps5
 go_upto_region 5 with (go_at_call 8; ((with_reducible refine HF.out.mono ?_); rintro e w1 ⟨rfl, hb1⟩; have HB1 := Veil.mk hb1; clear hb1))
 have HM := Veil.mk (machine_any w1 (Lib.tabBelow_of_tabIs HT.out.1 w1 HB1.out))
 have HP1 := Veil.mk (Lib.tabBelow_of_tabIs HT.out.2 w1 HB1.out)
 clear HF
 go_upto_region 6 with (go_at_call 10; ((with_reducible refine HM.out.mono ?_); rintro e w2 ⟨h, A, m, ts0, rfl, hmc⟩; have HM2 := Veil.mk hmc; clear hmc))
 clear HM HT
 obtain ⟨fa, hfa⟩ : ∃ fa : Vt, ((9, 38, ⟨#[]⟩) : Vt) = fa := ⟨_, rfl⟩
 obtain ⟨fw, hfw⟩ : ∃ fw : Vt, ((9, 39, ⟨#[]⟩) : Vt) = fw := ⟨_, rfl⟩
 have HBc : Veil (Below w2.heap.size w2 w2) := ⟨Below.refl _ _⟩
 have HAR : Veil (∀ w5, Below w2.heap.size w2 w5 -> Calls Tryz.prog 11 #[.pointer (some ⟨m, 0, none⟩), .slice (some ⟨w5.heap.size, 0, none⟩) 3 3] (w5.alloc (.cells #[.int .i64 3, .int .i64 0, .string ⟨#[]⟩, .int .i64 3, .int .i64 1, .string ⟨#[]⟩, .int .i64 3, .int .i64 2, .string ⟨#[]⟩] 28)) fun e w' => e = .returned (valV fa) /\ ∃ b ts', ts'.length = 38 /\ (∃ t, ts'[0]? = some t /\ PlT t 0 []) /\ (∃ t, ts'[11]? = some t /\ PlT t 0 e11W) /\ LawT ts' 37 /\ LS w1 h A m ts' 37 b 3 (lx ([(3, 0, ⟨#[]⟩), (3, 1, ⟨#[]⟩), (3, 2, ⟨#[]⟩)] : List Vt)) 0 (fun _ => False) w') := ⟨fun w5 hb => by
  have hx := Box.new w5 28 #[.int .i64 3, .int .i64 0, .string ⟨#[]⟩, .int .i64 3, .int .i64 1, .string ⟨#[]⟩, .int .i64 3, .int .i64 2, .string ⟨#[]⟩]
  have key := (HM2.out.on (hb.alloc hb.size _)).array38 (fun _ => False) (fun k hk => hk.elim) (.slice (some ⟨w5.heap.size, 0, none⟩) 3 3) ([(3, 0, ⟨#[]⟩), (3, 1, ⟨#[]⟩), (3, 2, ⟨#[]⟩)] : List Vt) (RowV.box ([(3, 0, ⟨#[]⟩), (3, 1, ⟨#[]⟩), (3, 2, ⟨#[]⟩)] : List Vt) 3 rfl hx) (by decide)
  rw [hfa] at key
  refine key.mono ?_
  rintro e w' ⟨he, b, ts', a1, a2, a3, a4, a5, -, -⟩
  exact ⟨he, b, ts', a1, a2, a3, a4, a5⟩⟩
 have HFV := Veil.mk (And.intro hfa hfw)
 clear hfa hfw
 go_upto_region 7 with (first | (go_at_call 19; ((with_reducible refine (num_any _ _).mono ?_); rintro e wn ⟨rfl, hbn⟩; replace HBc := Veil.mk (blw2 HBc.out hbn); clear hbn)) | (go_at_call 11; ((with_reducible refine (HAR.out _ HBc.out).mono ?_); rintro e w3 ⟨rfl, b, ts, hl1, hl2, hl3, hl4, hls⟩; have HL3 := Veil.mk (And.intro hl1 (And.intro hl2 (And.intro hl3 (And.intro hl4 hls)))); clear hl1 hl2 hl3 hl4 hls)))
 clear HAR HBc
 obtain ⟨ab, hab⟩ : ∃ ab, w3.heap.size = ab := ⟨_, rfl⟩
 obtain ⟨w4, hw4⟩ : ∃ w4, w3.alloc (.cells #[.int .i64 fa.1, .int .i64 fa.2.1, .string fa.2.2] 28) = w4 := ⟨_, rfl⟩
 have bx := Box.new w3 28 #[.int .i64 fa.1, .int .i64 fa.2.1, .string fa.2.2]
 have bl : Below w3.heap.size w3 (w3.alloc (.cells #[.int .i64 fa.1, .int .i64 fa.2.1, .string fa.2.2] 28)) := (Below.refl _ _).alloc (Nat.le_refl _) _
 rw [hw4] at bx bl ⊢
 rw [hab] at bx ⊢
 have hS4 : LS w1 h A m ts 37 b 3 (lx ([(3, 0, ⟨#[]⟩), (3, 1, ⟨#[]⟩), (3, 2, ⟨#[]⟩)] : List Vt)) 0 (fun k => k = ab) w4 := (HL3.out.2.2.2.2.excl (E' := fun k => k = ab) (fun k hk => .inr (by rw [hk]; omega))).on bl
 have HV := Veil.mk (hS4.ask_values HL3.out.2.2.2.1 (by have := HL3.out.1; omega) (fun k hk => by rw [hk]; exact bx.lt) (by decide) (by decide))
 have HAB := Veil.mk bx
 rw [HL3.out.1, show ((9, ((37 : Nat) : Int) + 1, ⟨#[]⟩) : Vt) = fa from HFV.out.1, show ((9, ((38 : Nat) : Int) + 1, ⟨#[]⟩) : Vt) = fw from HFV.out.2] at HV
 clear hab hw4 bx bl hS4
 have c0 : w4.cell? ⟨ab, 0, none⟩ = some (.int .i64 fa.1) := HAB.out.at_ 0
 have c1 : w4.cell? ⟨ab, 1, none⟩ = some (.int .i64 fa.2.1) := HAB.out.at_ 1
 have c2 : w4.cell? ⟨ab, 2, none⟩ = some (.string fa.2.2) := HAB.out.at_ 2
 go_upto_region 8 with (go_at_call 20; ((with_reducible refine HV.out.mono ?_); rintro e w5 ⟨rfl, ⟨o, g, hge, hls, hgb⟩, hbx, hsz⟩; have HR5 := Veil.mk (And.intro hls (And.intro hgb (And.intro (hbx ab VTy _ (by decide) rfl HAB.out) hge))); clear hls hgb hbx hge hsz))
 clear c0 c1 c2 HV
 obtain ⟨wb, hwb⟩ : ∃ wb, w5.heap.size = wb := ⟨_, rfl⟩
 obtain ⟨w6, hw6⟩ : ∃ w6, w5.alloc (.cells #[.int .i64 fw.1, .int .i64 fw.2.1, .string fw.2.2] 28) = w6 := ⟨_, rfl⟩
 have bx := Box.new w5 28 #[.int .i64 fw.1, .int .i64 fw.2.1, .string fw.2.2]
 have bl : Below w5.heap.size w5 (w5.alloc (.cells #[.int .i64 fw.1, .int .i64 fw.2.1, .string fw.2.2] 28)) := (Below.refl _ _).alloc (Nat.le_refl _) _
 rw [hw6] at bx bl ⊢
 rw [hwb] at bx ⊢
 have H0 : Veil (LVS w1 h A m b g o ab wb fa fw 0 0 false 3 w6) := ⟨by
  have hl := HL3.out.1
  have hL : LawW (ts ++ [TO.wkr o 2 (.slice (some ⟨g, 0, none⟩) 1 1) 0]) 38 o 2 (.slice (some ⟨g, 0, none⟩) 1 1) 0 := by
   have hge : ∀ (k : Nat) t u, ts[k]? = some t -> (ts ++ [u])[k]? = some t := fun k t u hg => by
    rw [List.getElem?_append_left (List.getElem?_eq_some_iff.1 hg).1]
    exact hg
   obtain ⟨t0, a1, a2⟩ := HL3.out.2.1
   obtain ⟨t1, b1, b2⟩ := HL3.out.2.2.1
   obtain ⟨t3, c1, d1, d3, d4⟩ := HL3.out.2.2.2.1.fn 14 (by decide)
   exact ⟨by rw [<- hl, List.getElem?_append_right (Nat.le_refl _), Nat.sub_self]; rfl, by decide, ⟨t0, hge _ _ _ a1, a2⟩, ⟨t1, hge _ _ _ b1, b2⟩, ⟨t3, hge _ _ _ c1, d1, d3, by rw [d4]; rfl⟩⟩
  refine ⟨⟨_, 3, _, 0 + 1, (HR5.out.1.excl (E' := (fun k => k = ab \/ k = wb \/ k = g)) (fun k hk => ?_)).on bl, HL3.out.2.2.2.1.more _ (by omega), fun _ => hL, fun h9 => (by cases h9), (by rw [List.length_append, hl]; exact Nat.le_refl _), (by omega), (by decide), (by decide), fun i hi => ?_⟩, HR5.out.2.2.1.below bl, bx, HR5.out.2.1.below bl, Nat.le_refl _, Nat.le_refl _, Nat.le_trans HR5.out.1.bel.size bl.size⟩
  ·rcases hk with hk | hk | hk
   ·exact .inl (.inl hk)
   ·exact .inr (by rw [hk]; omega)
   ·exact .inl (.inr hk)
  ·have hi3 : i = 0 \/ i = 1 \/ i = 2 := by omega
   rcases hi3 with rfl | rfl | rfl <;> (show (3 : Int) ≠ 10; decide)⟩
 have HNE : Veil (ab < wb /\ g < wb /\ ab ≠ g) := ⟨by have h1 := HR5.out.2.2.1.lt; have h2 := HR5.out.2.1.lt; omega, by have h2 := HR5.out.2.1.lt; omega, fun e => HR5.out.2.2.2 e.symm⟩
 have HB6 : Veil (Below w.heap.size w w1) := HB1
 clear hwb hw6 bx bl HR5 HAB HL3 HM2
 go_wp2
 go_loopw [7, 8, 9, 39] (fun av dv nv iv wr => ∃ j at_ nx : Nat, ∃ dn : Bool, j <= n /\ av = .int .i64 (at_ : Int) /\ dv = .bool dn /\ nv = .int .i64 (nx : Int) /\ iv = .int .i64 (j : Int) /\ LVS w1 h A m b g o ab wb fa fw j at_ dn nx wr) (fun _ _ _ iv _ => n - (intOf iv).toNat)
 case atStart => exact ⟨0, 0, 3, false, by omega, rfl, rfl, rfl, rfl, H0.out⟩
 case round =>
  clear H0
  obtain ⟨j, at_, nx, dn, hj, rfl, rfl, rfl, rfl, hv⟩ := hrel
  have hj0 : (0 : Int) <= (j : Int) := by omega
  by_cases hp : j < n
  ·have hlt : (j : Int) < (n : Int) := by omega
   obtain ⟨lb, lo, rfl, hbl, hc⟩ := HN.out.2 (by rw [HNL.out]; omega)
   obtain ⟨ts, ne, xs, st, hls, hLT, hW1, hW2, htl, hnl, hs0, hs1, hxs⟩ := hv.x
   have hcell : wr.cell? ⟨lb, lo + j, none⟩ = some (.int .i64 (l[j]?.getD 0)) := by
    rw [(HB6.out.trans (hls.bel.mono HB6.out.size)).cell (p := ⟨lb, lo + j, none⟩) hbl]
    exact hc j (by rw [HNL.out]; exact hp)
   obtain ⟨kv, hkv⟩ : ∃ kv, l[j]?.getD 0 = kv := ⟨_, rfl⟩
   rw [hkv] at hcell
   obtain ⟨c, hc4, hr1, hr2, hr3⟩ := rem4 kv
   rw [hr3] at hr1 hr2
   have HRM := Veil.mk (And.intro hr1 hr2)
   have HV := Veil.mk (And.intro hv (And.intro hls (And.intro hLT (And.intro hW1 (And.intro hW2 (And.intro htl (And.intro hnl (And.intro hs0 (And.intro hs1 hxs)))))))))
   have hw1 : IntKind.i64.wrap (kv.tmod 4) = kv.tmod 4 := hr3
   clear hv hls hLT hW1 hW2 htl hnl hs0 hs1 hxs hr1 hr2 hr3 hc hkv
   go_upto_region 12 with (fail)
   clear hcell
   have HVB := Veil.mk (And.intro HV.out.1.ab (And.intro HV.out.1.wb HV.out.1.g))
   have HLD := Veil.mk HV.out.2.1
   have HOF : Veil (∀ w', Below wr.heap.size wr w' -> Calls Tryz.prog 14 #[.pointer (some ⟨h, 0, none⟩), valV fa] w' fun e w9 => e = .returned (.pointer (some ⟨b, 0, none⟩)) /\ Below w'.heap.size w' w9) := ⟨fun w' hb => by
    obtain ⟨ev, na, ca, xs0, h1, -⟩ := (HLD.out.on hb).x
    rw [<- HFV.out.1]
    exact h1.of_at (List.getElem?_set_self HV.out.2.2.1.lt) rfl _⟩
   have HLO9 : Veil (w1.heap.size <= wr.heap.size) := ⟨HV.out.1.lo⟩
   have m0 : ∀ z : BW wr, z.w.cell? ⟨m, 0, none⟩ = some (.pointer (some ⟨h, 0, none⟩)) := fun z => (HLD.out.on z.h).at0
   have c0 : ∀ z : BW wr, z.w.cell? ⟨ab, 0, none⟩ = some (.int .i64 fa.1) := fun z => (HVB.out.1.below z.h).at_ 0
   have c1 : ∀ z : BW wr, z.w.cell? ⟨ab, 1, none⟩ = some (.int .i64 fa.2.1) := fun z => (HVB.out.1.below z.h).at_ 1
   have c2 : ∀ z : BW wr, z.w.cell? ⟨ab, 2, none⟩ = some (.string fa.2.2) := fun z => (HVB.out.1.below z.h).at_ 2
   have hNE := BW.ne wr
   refine wp_region_below (by kernel_rfl) (by kernel_rfl) ?_
   repeat (go_big_quiet_step ((go_at_call 14; exact BW.on _ (HOF.out _ (BW.h _)))))
   refine wpQuiet_nil ?_
   rintro _ ⟨z, rfl⟩
   have HQ := Veil.mk z.h
   obtain ⟨wE, hE2⟩ : ∃ wE, z.w = wE := ⟨_, rfl⟩
   rw [hE2] at HQ ⊢
   clear m0 c0 c1 c2 hE2 z hNE
   have HLE := Veil.mk (HLD.out.on HQ.out)
   have HVE := Veil.mk (And.intro (HVB.out.1.below HQ.out) (And.intro (HVB.out.2.1.below HQ.out) (HVB.out.2.2.below HQ.out)))
   have HLO8 : Veil (w1.heap.size <= wE.heap.size) := ⟨Nat.le_trans HLO9.out HQ.out.size⟩
   clear HQ HLD HVB HOF HLO9
   have hm2 := HRM.out.1
   have hm3 := HRM.out.2
   have hcs : c = 0 \/ c = 1 \/ 2 <= c := by omega
   rcases hcs with rfl | rfl | hc2
   ·go_upto_region 23 with (fail)
    obtain ⟨WD, hWD⟩ : ∃ WD, wE.drew = WD := ⟨_, rfl⟩
    have hbD : Below wE.heap.size wE WD := by rw [<- hWD]; exact (Below.refl _ _).drew
    have HVD := Veil.mk (And.intro (HVE.out.1.below hbD) (And.intro (HVE.out.2.1.below hbD) (HVE.out.2.2.below hbD)))
    have hLD := HLE.out.on hbD
    have hszD : w1.heap.size <= WD.heap.size := Nat.le_trans HLO8.out hbD.size
    have HPB : Veil (∀ w9 w8, (fun w => LT w1 h A m 37 b (ne + 1) (fun i => if i < ne then xs i else ((3, (nx : Int), ⟨#[]⟩) : Vt)) (st + 2) (fun ts1 => ts1 = ts) (fun k => k = ab \/ k = wb \/ k = g) w /\ Box w ab VTy #[.int .i64 fa.1, .int .i64 fa.2.1, .string fa.2.2] /\ Box w wb VTy #[.int .i64 fw.1, .int .i64 fw.2.1, .string fw.2.2] /\ Box w g VTy #[.int .i64 9, .int .i64 (((37 : Nat) : Int) + 1), .string ⟨#[]⟩] /\ w1.heap.size <= w.heap.size) w9 -> Below w9.heap.size w9 w8 -> (fun w => LT w1 h A m 37 b (ne + 1) (fun i => if i < ne then xs i else ((3, (nx : Int), ⟨#[]⟩) : Vt)) (st + 2) (fun ts1 => ts1 = ts) (fun k => k = ab \/ k = wb \/ k = g) w /\ Box w ab VTy #[.int .i64 fa.1, .int .i64 fa.2.1, .string fa.2.2] /\ Box w wb VTy #[.int .i64 fw.1, .int .i64 fw.2.1, .string fw.2.2] /\ Box w g VTy #[.int .i64 9, .int .i64 (((37 : Nat) : Int) + 1), .string ⟨#[]⟩] /\ w1.heap.size <= w.heap.size) w8) := ⟨fun w9 w8 ⟨⟨ts1, e1, q1⟩, q2, q3, q4, q5⟩ hb => ⟨⟨ts1, e1, q1.on hb⟩, q2.below hb, q3.below hb, q4.below hb, Nat.le_trans q5 hb.size⟩⟩
    have HC9 : Veil (∀ w9 gr, Below WD.heap.size WD w9 -> WD.heap.size <= gr -> Box w9 gr VTy #[.int .i64 3, .int .i64 (nx : Int), .string ⟨#[]⟩] -> Calls Tryz.prog 20 #[.pointer (some ⟨m, 0, none⟩), valV fa, .string ⟨#[112, 117, 115, 104]⟩, .slice (some ⟨gr, 0, none⟩) 1 1] w9 fun e w8 => e = .returned (.tuple #[valV (3, (ne : Int) + 1, ⟨#[]⟩), .int .i64 0]) /\ (fun w => LT w1 h A m 37 b (ne + 1) (fun i => if i < ne then xs i else ((3, (nx : Int), ⟨#[]⟩) : Vt)) (st + 2) (fun ts1 => ts1 = ts) (fun k => k = ab \/ k = wb \/ k = g) w /\ Box w ab VTy #[.int .i64 fa.1, .int .i64 fa.2.1, .string fa.2.2] /\ Box w wb VTy #[.int .i64 fw.1, .int .i64 fw.2.1, .string fw.2.2] /\ Box w g VTy #[.int .i64 9, .int .i64 (((37 : Nat) : Int) + 1), .string ⟨#[]⟩] /\ w1.heap.size <= w.heap.size) w8 /\ w9.heap.size <= w8.heap.size) := ⟨fun w9 gr hb hgr hbx => by
     have hE9 : ∀ k, (k = ab \/ k = wb \/ k = g) -> k < WD.heap.size := fun k hk => by
      rcases hk with hk | hk | hk <;> rw [hk]
      ·exact HVD.out.1.lt
      ·exact HVD.out.2.1.lt
      ·exact HVD.out.2.2.lt
     have key := (((hLD.excl (E' := fun k => (k = ab \/ k = wb \/ k = g) \/ k = gr) (fun k hk => hk.elim .inl (fun h9 => .inr (by rw [h9]; exact hgr)))).on hb).ask_push HV.out.2.2.1 HP1.out (fun k hk => hk.elim (fun h9 => Nat.lt_of_lt_of_le (hE9 k h9) hb.size) (fun h9 => by rw [h9]; exact hbx.lt)) HV.out.2.2.2.2.2.2.2.1 (by have := HV.out.2.2.2.2.2.2.2.2.1; omega) (by have := HV.out.2.2.2.2.2.2.1; omega) (3, (nx : Int), ⟨#[]⟩) (.slice (some ⟨gr, 0, none⟩) 1 1) (RowV.box [(3, (nx : Int), ⟨#[]⟩)] 1 rfl hbx) (fun k hk => by
      have hk : gr = k := Option.some.inj hk
      exact .inr hk.symm))
     rw [show ((9, ((37 : Nat) : Int) + 1, ⟨#[]⟩) : Vt) = fa from HFV.out.1] at key
     refine key.mono ?_
     rintro e w8 ⟨he, ⟨ts1, e1, q1⟩, q2, q3⟩
     exact ⟨he, ⟨⟨ts1, e1, q1.excl (fun k hk => .inl (.inl hk))⟩, q2 ab VTy _ (by decide) (.inl (.inl rfl)) (HVD.out.1.below hb), q2 wb VTy _ (by decide) (.inl (.inr (.inl rfl))) (HVD.out.2.1.below hb), q2 g VTy _ (by decide) (.inl (.inr (.inr rfl))) (HVD.out.2.2.below hb), Nat.le_trans hszD (Nat.le_trans hb.size q3)⟩, q3⟩⟩
    have HWD := Veil.mk hWD
    clear hWD hbD hLD hszD HLE HVE HLO8 hm2 hm3 HRM hw1
    refine wp_region_chain (some (· = .pointer (some ⟨m, 0, none⟩)) :: some (· = valV fa) :: some (· = .int .i64 (nx : Int)) :: some (· = valV (3, (nx : Int), ⟨#[]⟩)) :: none :: some (· = (.tuple #[valV (3, (ne : Int) + 1, ⟨#[]⟩), .int .i64 0])) :: [] : List (Option (Value -> Prop))) (BC WD (fun w => LT w1 h A m 37 b (ne + 1) (fun i => if i < ne then xs i else ((3, (nx : Int), ⟨#[]⟩) : Vt)) (st + 2) (fun ts1 => ts1 = ts) (fun k => k = ab \/ k = wb \/ k = g) w /\ Box w ab VTy #[.int .i64 fa.1, .int .i64 fa.2.1, .string fa.2.2] /\ Box w wb VTy #[.int .i64 fw.1, .int .i64 fw.2.1, .string fw.2.2] /\ Box w g VTy #[.int .i64 9, .int .i64 (((37 : Nat) : Int) + 1), .string ⟨#[]⟩] /\ w1.heap.size <= w.heap.size) #[.int .i64 3, .int .i64 (nx : Int), .string ⟨#[]⟩] 4 5) [some 118, some 119, some 120, some 121, some 122, some 123] (curV' _ [some 118, some 119, some 120, some 121, some 122, some 123]) (by kernel_rfl) rfl rfl (puts_cur _ _) (by rw [HWD.out]; exact BC.start) ?_ (by kernel_rfl) ?_
    ·refine SV rfl (fun _ _ _ _ _ S => ?_) ?_
     ·obtain ⟨_, _, _, _, _, _, rfl⟩ := lenA6 S.hu
      rw [pin S.ha]
      go_simp
      exact S.kS 0 _ rfl rfl rfl rfl (S.hI.ph.quiet HPB.out 0 _ (by decide) (Below.refl _ _))
     refine SV rfl (fun _ _ w' _ _ S => ?_) ?_
     ·obtain ⟨_, _, _, _, _, _, rfl⟩ := lenA6 S.hu
      have hz := (S.hI.bwd [1] 5 1 (by kernel_rfl) rfl S.h0)
      have hbl := S.hI.ph.s0 hz
      have c0 : w'.cell? ⟨ab, 0, none⟩ = some (.int .i64 fa.1) := (HVD.out.1.below hbl).at_ 0
      have c1 : w'.cell? ⟨ab, 1, none⟩ = some (.int .i64 fa.2.1) := (HVD.out.1.below hbl).at_ 1
      have c2 : w'.cell? ⟨ab, 2, none⟩ = some (.string fa.2.2) := (HVD.out.1.below hbl).at_ 2
      clear hbl hz
      rw [pin S.ha]
      go_simp
      exact S.kS 1 _ rfl rfl rfl rfl (S.hI.ph.quiet HPB.out 1 _ (by decide) (Below.refl _ _))
     refine SV rfl (fun _ _ _ _ _ S => ?_) ?_
     ·obtain ⟨_, _, _, _, _, _, rfl⟩ := lenA6 S.hu
      rw [pin S.ha]
      go_simp
      exact S.kS 2 _ rfl rfl rfl rfl (S.hI.ph.quiet HPB.out 2 _ (by decide) (Below.refl _ _))
     refine SV rfl (fun _ _ _ _ _ S => ?_) ?_
     ·obtain ⟨_, _, u2, _, _, _, rfl⟩ := lenA6 S.hu
      obtain rfl : u2 = _ := S.q 2 rfl
      rw [pin S.ha]
      go_simp
      go_at_call 19
      refine (num_any _ _).mono ?_
      rintro e9 w9 ⟨rfl, hm9⟩
      go_simp
      exact S.kS 3 _ rfl rfl rfl rfl (S.hI.ph.quiet HPB.out 3 _ (by decide) hm9)
     refine SV rfl (fun _ _ _ _ _ S => ?_) ?_
     ·obtain ⟨_, _, _, u3, _, _, rfl⟩ := lenA6 S.hu
      obtain rfl : u3 = _ := S.q 3 rfl
      have h18 := (S.hI.bwd [4] 5 4 (by kernel_rfl) rfl S.h0)
      rw [pin S.ha]
      go_simp
      exact S.kN 4 _ rfl rfl rfl (S.hI.ph.row (by decide) h18)
     refine SV rfl (fun _ _ w' _ _ S => ?_) ?_
     ·obtain ⟨u0, u1, _, _, u4, _, rfl⟩ := lenA6 S.hu
      obtain rfl : u0 = _ := S.q 0 rfl
      obtain rfl : u1 = _ := S.q 1 rfl
      have hbl := S.hI.ph.s0 S.h0
      have h3 := gen_after 4 (by kernel_rfl) S.hp
      obtain ⟨g9, hg9, hlo9, hbx9⟩ := S.hI.ph.r h3 S.h0
      replace hg9 : u4 = .slice (some ⟨g9, 0, none⟩) 1 1 := hg9
      subst hg9
      have HX9 := Veil.mk (HC9.out w' g9 hbl hlo9 hbx9)
      clear hbl hbx9 hlo9
      rw [pin S.ha]
      go_simp
      go_at_call 20
      refine HX9.out.mono ?_
      rintro e9 w9 ⟨rfl, hq9, hs9⟩
      go_simp
      exact S.kS 5 _ rfl rfl rfl rfl (S.hI.ph.call hq9 hs9 _)
     exact Steps.nil
    ·intro us wE hus dd hD2 hJ
     obtain ⟨p0, p1, p2, p3, p4, p5, rfl⟩ := lenA6 hus
     have hph := hJ.ph
     obtain rfl : p0 = _ := hJ.vq 0 rfl rfl hD2
     obtain rfl : p1 = _ := hJ.vq 1 rfl rfl hD2
     obtain rfl : p2 = _ := hJ.vq 2 rfl rfl hD2
     obtain rfl : p3 = _ := hJ.vq 3 rfl rfl hD2
     obtain rfl : p5 = _ := hJ.vq 5 rfl rfl hD2
     clear hJ
     have HQ := Veil.mk (hph.s1 (hD2 5 (by show 5 < 6; decide)))
     clear hph hD2 HC9 HPB HWD HVD
     simp only [puts, setAll, List.setIfInBounds_toArray, List.set_cons_zero, List.set_cons_succ]
     have hnx : IntKind.i64.wrap ((nx : Int) + 1) = (nx : Int) + 1 := IntWalk.i64_in _ (by have := HV.out.1.nx; omega)
     go_wp2
     have HNXT : Veil (LVS w1 h A m b g o ab wb fa fw (j + 1) at_ dn (nx + 1) wE) := ⟨by
      obtain ⟨⟨ts1, rfl, hl1⟩, q2, q3, q4, q5⟩ := HQ.out
      exact ⟨⟨_, _, _, _, hl1, HV.out.2.2.1, HV.out.2.2.2.1, HV.out.2.2.2.2.1, by have := HV.out.2.2.2.2.2.1; omega, by have := HV.out.2.2.2.2.2.2.1; omega, by have := HV.out.2.2.2.2.2.2.2.1; omega, by have := HV.out.2.2.2.2.2.2.2.2.1; omega, fun i hi => by
       show (if i < ne then xs i else ((3, (nx : Int), ⟨#[]⟩) : Vt)).1 ≠ 10
       split
       ·rename_i h9
        exact HV.out.2.2.2.2.2.2.2.2.2 i h9
       ·show (3 : Int) ≠ 10
        decide⟩, q2, q3, q4, by have := HV.out.1.at_; omega, by have := HV.out.1.nx; omega, q5⟩⟩
     clear HQ hnx
     go_roundw
     case rel => exact ⟨j + 1, at_, nx + 1, dn, by omega, rfl, rfl, by go_num, by go_num, HNXT.out⟩
     case measure => simp [intOf]; omega
   ·have hE9 : ∀ k, (k = ab \/ k = wb \/ k = g) -> k < wE.heap.size := fun k hk => by
     rcases hk with hk | hk | hk <;> rw [hk]
     ·exact HVE.out.1.lt
     ·exact HVE.out.2.1.lt
     ·exact HVE.out.2.2.lt
    rcases ne with _ | ne2
    ·have key := HLE.out.ask_pop0 HV.out.2.2.1 hE9 HV.out.2.2.2.2.2.2.2.1 (by have := HV.out.2.2.2.2.2.2.2.2.1; omega)
     rw [show ((9, ((37 : Nat) : Int) + 1, ⟨#[]⟩) : Vt) = fa from HFV.out.1] at key
     have HPOP := Veil.mk key
     have c0 : wE.cell? ⟨ab, 0, none⟩ = some (.int .i64 fa.1) := HVE.out.1.at_ 0
     have c1 : wE.cell? ⟨ab, 1, none⟩ = some (.int .i64 fa.2.1) := HVE.out.1.at_ 1
     have c2 : wE.cell? ⟨ab, 2, none⟩ = some (.string fa.2.2) := HVE.out.1.at_ 2
     clear key
     go_upto_region 27 with (go_at_call 20; ((with_reducible refine HPOP.out.mono ?_); rintro e w7 ⟨rfl, ⟨ts1, e1, q1⟩, q2, q3⟩; have HR7 := Veil.mk (And.intro e1 (And.intro q1 (And.intro q2 q3))); clear e1 q1 q2 q3))
     clear c0 c1 c2 HPOP hm2 hm3
     go_wp2
     have HNXT : Veil (LVS w1 h A m b g o ab wb fa fw (j + 1) at_ dn nx w7) := ⟨by
      obtain ⟨e1, q1, q2, q3⟩ := HR7.out
      subst e1
      exact ⟨⟨_, _, _, _, q1, HV.out.2.2.1, HV.out.2.2.2.1, HV.out.2.2.2.2.1, by have := HV.out.2.2.2.2.2.1; omega, by have := HV.out.2.2.2.2.2.2.1; omega, by have := HV.out.2.2.2.2.2.2.2.1; omega, by have := HV.out.2.2.2.2.2.2.2.2.1; omega, fun i hi => HV.out.2.2.2.2.2.2.2.2.2 i (by omega)⟩, q2 ab VTy _ (by decide) (.inl rfl) HVE.out.1, q2 wb VTy _ (by decide) (.inr (.inl rfl)) HVE.out.2.1, q2 g VTy _ (by decide) (.inr (.inr rfl)) HVE.out.2.2, by have := HV.out.1.at_; omega, by have := HV.out.1.nx; omega, Nat.le_trans HLO8.out q3⟩⟩
     clear HR7
     go_roundw
     case rel => exact ⟨j + 1, at_, nx, dn, by omega, rfl, rfl, rfl, by go_num, HNXT.out⟩
     case measure => simp [intOf]; omega
    ·have key := HLE.out.ask_pop HV.out.2.2.1 hE9 HV.out.2.2.2.2.2.2.2.1 (by have := HV.out.2.2.2.2.2.2.2.2.1; omega) (by have := HV.out.2.2.2.2.2.2.1; omega)
     rw [show ((9, ((37 : Nat) : Int) + 1, ⟨#[]⟩) : Vt) = fa from HFV.out.1] at key
     have HPOP := Veil.mk key
     have c0 : wE.cell? ⟨ab, 0, none⟩ = some (.int .i64 fa.1) := HVE.out.1.at_ 0
     have c1 : wE.cell? ⟨ab, 1, none⟩ = some (.int .i64 fa.2.1) := HVE.out.1.at_ 1
     have c2 : wE.cell? ⟨ab, 2, none⟩ = some (.string fa.2.2) := HVE.out.1.at_ 2
     clear key
     go_upto_region 27 with (go_at_call 20; ((with_reducible refine HPOP.out.mono ?_); rintro e w7 ⟨rfl, ⟨ts1, e1, q1⟩, q2, q3⟩; have HR7 := Veil.mk (And.intro e1 (And.intro q1 (And.intro q2 q3))); clear e1 q1 q2 q3))
     clear c0 c1 c2 HPOP hm2 hm3
     go_wp2
     have HNXT : Veil (LVS w1 h A m b g o ab wb fa fw (j + 1) at_ dn nx w7) := ⟨by
      obtain ⟨e1, q1, q2, q3⟩ := HR7.out
      subst e1
      exact ⟨⟨_, _, _, _, q1, HV.out.2.2.1, HV.out.2.2.2.1, HV.out.2.2.2.2.1, by have := HV.out.2.2.2.2.2.1; omega, by have := HV.out.2.2.2.2.2.2.1; omega, by have := HV.out.2.2.2.2.2.2.2.1; omega, by have := HV.out.2.2.2.2.2.2.2.2.1; omega, fun i hi => HV.out.2.2.2.2.2.2.2.2.2 i (by omega)⟩, q2 ab VTy _ (by decide) (.inl rfl) HVE.out.1, q2 wb VTy _ (by decide) (.inr (.inl rfl)) HVE.out.2.1, q2 g VTy _ (by decide) (.inr (.inr rfl)) HVE.out.2.2, by have := HV.out.1.at_; omega, by have := HV.out.1.nx; omega, Nat.le_trans HLO8.out q3⟩⟩
     clear HR7
     go_roundw
     case rel => exact ⟨j + 1, at_, nx, dn, by omega, rfl, rfl, rfl, by go_num, HNXT.out⟩
     case measure => simp [intOf]; omega
   ·have hc0 : ¬ (c : Int) = 0 := by omega
    have hc1 : ¬ (c : Int) = 1 := by omega
    have hE9 : ∀ k, (k = ab \/ k = wb \/ k = g) -> k < wE.heap.size := fun k hk => by
     rcases hk with hk | hk | hk <;> rw [hk]
     ·exact HVE.out.1.lt
     ·exact HVE.out.2.1.lt
     ·exact HVE.out.2.2.lt
    cases dn
    ·have HW9 := Veil.mk (HV.out.2.2.2.1 rfl)
     by_cases hat : at_ < ne
     ·obtain ⟨x, hxe⟩ : ∃ x, xs at_ = x := ⟨_, rfl⟩
      have key := HLE.out.next_more HV.out.2.2.1 HW9.out (.inl rfl) (by decide) hE9 HV.out.2.2.2.2.2.2.2.1 (by have := HV.out.2.2.2.2.2.2.2.2.1; omega) (by have := HV.out.2.2.2.2.2.1; omega) (by have := HV.out.2.2.2.2.2.2.1; omega) (by have := HV.out.1.at_; omega) (.inr (.inr rfl)) HVE.out.2.2 hat (HV.out.2.2.2.2.2.2.2.2.2 at_ hat)
      rw [hxe] at key
      obtain ⟨fr, hfr⟩ : ∃ fr : Vt, ((9, (ts.length : Int) + 1, ⟨#[]⟩) : Vt) = fr := ⟨_, rfl⟩
      rw [hfr, show ((9, ((38 : Nat) : Int) + 1, ⟨#[]⟩) : Vt) = fw from HFV.out.2] at key
      have HKEY := Veil.mk key
      have HFR := Veil.mk hfr
      clear key hfr
      have w0 : wE.cell? ⟨wb, 0, none⟩ = some (.int .i64 fw.1) := HVE.out.2.1.at_ 0
      have w1 : wE.cell? ⟨wb, 1, none⟩ = some (.int .i64 fw.2.1) := HVE.out.2.1.at_ 1
      have w2 : wE.cell? ⟨wb, 2, none⟩ = some (.string fw.2.2) := HVE.out.2.1.at_ 2
      go_upto_region 15 with (go_at_call 20; ((with_reducible refine HKEY.out.mono ?_); rintro e w7 ⟨rfl, ⟨ts1, ⟨ob, pv, F, e1⟩, q1⟩, q2, q3⟩; have HR7 := Veil.mk (And.intro e1 (And.intro q1 (And.intro q2 q3))); clear e1 q1 q2 q3))
      clear w0 w1 w2 HKEY hm2 hm3
      obtain ⟨pb, hpb⟩ : ∃ pb, w7.heap.size = pb := ⟨_, rfl⟩
      obtain ⟨w8, hw8⟩ : ∃ w8, w7.alloc (.cells #[.int .i64 fr.1, .int .i64 fr.2.1, .string fr.2.2] 28) = w8 := ⟨_, rfl⟩
      have bx := Box.new w7 28 #[.int .i64 fr.1, .int .i64 fr.2.1, .string fr.2.2]
      have bl : Below w7.heap.size w7 (w7.alloc (.cells #[.int .i64 fr.1, .int .i64 fr.2.1, .string fr.2.2] 28)) := (Below.refl _ _).alloc (Nat.le_refl _) _
      rw [hw8] at bx bl ⊢
      rw [hpb] at bx ⊢
      have HL8 : Veil (LS w1 h A m ((ts.set 38 (TO.wkr o 2 (.slice (some ⟨g, 0, none⟩) 1 1) ((at_ : Int) + 1))) ++ [(⟨ob, 0, 1, pv, .slice none 0 0, .nilIface, kd0, F, [(kVal, x, 7), (kDone, tvV false, 7)]⟩ : TO)]) 37 b ne xs (st + 1) (fun k => k = ab \/ k = wb \/ k = g) w8) := ⟨by
       have h9 := HR7.out.2.1
       rw [HR7.out.1] at h9
       exact h9.on bl⟩
      have HX8 := Veil.mk (And.intro ((HR7.out.2.2.1 ab VTy _ (by decide) (.inl rfl) HVE.out.1).below bl) (And.intro ((HR7.out.2.2.1 wb VTy _ (by decide) (.inr (.inl rfl)) HVE.out.2.1).below bl) (And.intro ((HR7.out.2.2.1 g VTy _ (by decide) (.inr (.inr rfl)) HVE.out.2.2).below bl) (And.intro bx (show w1.heap.size <= w8.heap.size from Nat.le_trans HLO8.out (Nat.le_trans HR7.out.2.2.2 bl.size))))))
      have HLT9 : Veil (LawT (ts.set 38 (TO.wkr o 2 (.slice (some ⟨g, 0, none⟩) 1 1) ((at_ : Int) + 1))) 37 /\ LawW ((ts.set 38 (TO.wkr o 2 (.slice (some ⟨g, 0, none⟩) 1 1) ((at_ : Int) + 1))) ++ [(⟨ob, 0, 1, pv, .slice none 0 0, .nilIface, kd0, F, [(kVal, x, 7), (kDone, tvV false, 7)]⟩ : TO)]) 38 o 2 (.slice (some ⟨g, 0, none⟩) 1 1) ((at_ + 1 : Nat) : Int) /\ (ts.set 38 (TO.wkr o 2 (.slice (some ⟨g, 0, none⟩) 1 1) ((at_ : Int) + 1))).length = ts.length /\ ts.length < 99998) := ⟨⟨HV.out.2.2.1.setW _ (by decide), HW9.out.set.more _, List.length_set .., by have := HV.out.2.2.2.2.2.1; omega⟩⟩
      obtain ⟨dv, hdv⟩ : ∃ dv, tvV false = dv := ⟨_, rfl⟩
      have HTR : Veil (∀ w9, Calls Tryz.prog 22 #[valV dv] w9 fun e w' => e = .returned (.bool false) /\ Below w9.heap.size w9 w') := ⟨fun w9 => by rw [<- hdv]; exact true_v false w9⟩
      have HMD : Veil (∀ w9, Below w8.heap.size w8 w9 -> Calls Tryz.prog 21 #[.pointer (some ⟨m, 0, none⟩), valV fr, .string ⟨#[100, 111, 110, 101]⟩] w9 fun e w' => e = .returned (.tuple #[valV dv, .int .i64 0]) /\ Below w9.heap.size w9 w') := ⟨fun w9 hb => by
       have h9 := (HL8.out.on hb).done HLT9.out.1 HLT9.out.2.1 HLT9.out.2.2.1 (by have := HLT9.out.2.2; omega)
       rw [hdv, HFR.out] at h9
       exact h9⟩
      have HMV : Veil (∀ w9, Below w8.heap.size w8 w9 -> Calls Tryz.prog 21 #[.pointer (some ⟨m, 0, none⟩), valV fr, .string ⟨#[118, 97, 108, 117, 101]⟩] w9 fun e w' => e = .returned (.tuple #[valV x, .int .i64 0]) /\ Below w9.heap.size w9 w') := ⟨fun w9 hb => by
       have h9 := (HL8.out.on hb).value HLT9.out.1 HLT9.out.2.1 HLT9.out.2.2.1 (by have := HLT9.out.2.2; omega)
       rw [HFR.out] at h9
       exact h9⟩
      clear hpb hw8 bx bl HR7 hdv
      have p0 : w8.cell? ⟨pb, 0, none⟩ = some (.int .i64 fr.1) := HX8.out.2.2.2.1.at_ 0
      have p1 : w8.cell? ⟨pb, 1, none⟩ = some (.int .i64 fr.2.1) := HX8.out.2.2.2.1.at_ 1
      have p2 : w8.cell? ⟨pb, 2, none⟩ = some (.string fr.2.2) := HX8.out.2.2.2.1.at_ 2
      go_upto_region 16 with (go_at_call 21; ((with_reducible refine (HMD.out w8 (Below.refl _ _)).mono ?_); rintro e w9 ⟨rfl, hb9⟩; have HB9 := Veil.mk hb9; clear hb9))
      clear p0 p1 p2 HMD
      obtain ⟨db, hdb⟩ : ∃ db, w9.heap.size = db := ⟨_, rfl⟩
      obtain ⟨w10, hw10⟩ : ∃ w10, w9.alloc (.cells #[.int .i64 dv.1, .int .i64 dv.2.1, .string dv.2.2] 28) = w10 := ⟨_, rfl⟩
      have bx := Box.new w9 28 #[.int .i64 dv.1, .int .i64 dv.2.1, .string dv.2.2]
      have bl : Below w9.heap.size w9 (w9.alloc (.cells #[.int .i64 dv.1, .int .i64 dv.2.1, .string dv.2.2] 28)) := (Below.refl _ _).alloc (Nat.le_refl _) _
      rw [hw10] at bx bl ⊢
      rw [hdb] at bx ⊢
      have HB10 := Veil.mk (And.intro (blw2 HB9.out bl) bx)
      have hpb10 := HX8.out.2.2.2.1.below HB10.out.1
      clear hdb hw10 bx bl HB9
      have p0 : w10.cell? ⟨pb, 0, none⟩ = some (.int .i64 fr.1) := hpb10.at_ 0
      have p1 : w10.cell? ⟨pb, 1, none⟩ = some (.int .i64 fr.2.1) := hpb10.at_ 1
      have p2 : w10.cell? ⟨pb, 2, none⟩ = some (.string fr.2.2) := hpb10.at_ 2
      go_upto_region 17 with (go_at_call 21; ((with_reducible refine (HMV.out w10 HB10.out.1).mono ?_); rintro e w11 ⟨rfl, hb11⟩; have HB11 := Veil.mk hb11; clear hb11))
      clear p0 p1 p2 HMV hpb10
      obtain ⟨xb, hxb⟩ : ∃ xb, w11.heap.size = xb := ⟨_, rfl⟩
      obtain ⟨w12, hw12⟩ : ∃ w12, w11.alloc (.cells #[.int .i64 x.1, .int .i64 x.2.1, .string x.2.2] 28) = w12 := ⟨_, rfl⟩
      have bx := Box.new w11 28 #[.int .i64 x.1, .int .i64 x.2.1, .string x.2.2]
      have bl : Below w11.heap.size w11 (w11.alloc (.cells #[.int .i64 x.1, .int .i64 x.2.1, .string x.2.2] 28)) := (Below.refl _ _).alloc (Nat.le_refl _) _
      rw [hw12] at bx bl ⊢
      rw [hxb] at bx ⊢
      have hb812 := blw2 HB10.out.1 (blw2 HB11.out bl)
      have HB12 := Veil.mk (And.intro hb812 (And.intro (HB10.out.2.below (blw2 HB11.out bl)) bx))
      have HL12 := Veil.mk (HL8.out.on hb812)
      clear hxb hw12 bx bl HB11 HB10 HL8 hb812
      obtain ⟨ev9, na9, ca9, xs9, m1, m2, m3, -⟩ := HL12.out.x
      have hbb := m1.mem_b (List.mem_of_getElem? (List.getElem?_set_self (show 37 < ((ts.set 38 (TO.wkr o 2 (.slice (some ⟨g, 0, none⟩) 1 1) ((at_ : Int) + 1))) ++ [(⟨ob, 0, 1, pv, .slice none 0 0, .nilIface, kd0, F, [(kVal, x, 7), (kDone, tvV false, 7)]⟩ : TO)]).length by rw [List.length_append]; have := HLT9.out.1.lt; omega))) rfl
      obtain ⟨ge, cap9, rfl, hel⟩ : ∃ ge cap9, ev9 = .slice (some ⟨ge, 0, none⟩) ne cap9 /\ ELg w12 A ge ne cap9 xs9 := by
       rcases m2 with ⟨-, e2⟩ | ⟨g2, cap, e1, h9⟩
       ·omega
       ·exact ⟨g2, cap, e1, h9⟩
      obtain ⟨k0, k1, k2⟩ := hel.cell at_ (Nat.lt_of_lt_of_le hat hel.le)
      rw [m3 at_ hat, hxe] at k0 k1 k2
      have hgel := hel.lt
      have b4 : w12.cell? ⟨b, 4, none⟩ = some (.slice (some ⟨ge, 0, none⟩) ne cap9) := hbb.at_ 4
      have HEL := Veil.mk (And.intro hbb (And.intro hgel (And.intro k0 (And.intro k1 k2))))
      clear m1 m2 m3 hbb hel k0 k1 k2 hgel
      have hat1 : ¬ (ne : Int) <= (at_ : Int) := by first | trivial | omega
      go_upto_region 18 with (fail)
      clear b4
      have d0 : ∀ z : BW w12, z.w.cell? ⟨db, 0, none⟩ = some (.int .i64 dv.1) := fun z => (HB12.out.2.1.below z.h).at_ 0
      have d1 : ∀ z : BW w12, z.w.cell? ⟨db, 1, none⟩ = some (.int .i64 dv.2.1) := fun z => (HB12.out.2.1.below z.h).at_ 1
      have d2 : ∀ z : BW w12, z.w.cell? ⟨db, 2, none⟩ = some (.string dv.2.2) := fun z => (HB12.out.2.1.below z.h).at_ 2
      have e0 : ∀ z : BW w12, z.w.cell? ⟨xb, 0, none⟩ = some (.int .i64 x.1) := fun z => (HB12.out.2.2.below z.h).at_ 0
      have e1 : ∀ z : BW w12, z.w.cell? ⟨xb, 1, none⟩ = some (.int .i64 x.2.1) := fun z => (HB12.out.2.2.below z.h).at_ 1
      have e2 : ∀ z : BW w12, z.w.cell? ⟨xb, 2, none⟩ = some (.string x.2.2) := fun z => (HB12.out.2.2.below z.h).at_ 2
      have b4 : ∀ z : BW w12, z.w.cell? ⟨b, 4, none⟩ = some (.slice (some ⟨ge, 0, none⟩) ne cap9) := fun z => (HEL.out.1.below z.h).at_ 4
      have k0 : ∀ z : BW w12, z.w.cell? ⟨ge, at_ * 3, none⟩ = some (.int .i64 x.1) := fun z => (z.h.cell (p := ⟨ge, at_ * 3, none⟩) HEL.out.2.1).trans HEL.out.2.2.1
      have k1 : ∀ z : BW w12, z.w.cell? ⟨ge, at_ * 3 + 1, none⟩ = some (.int .i64 x.2.1) := fun z => (z.h.cell (p := ⟨ge, at_ * 3 + 1, none⟩) HEL.out.2.1).trans HEL.out.2.2.2.1
      have k2 : ∀ z : BW w12, z.w.cell? ⟨ge, at_ * 3 + 2, none⟩ = some (.string x.2.2) := fun z => (z.h.cell (p := ⟨ge, at_ * 3 + 2, none⟩) HEL.out.2.1).trans HEL.out.2.2.2.2
      have hat0 : (0 : Int) <= (at_ : Int) := by omega
      have hat2 : (at_ : Int) < (ne : Int) := by omega
      clear hw1
      have hNE := BW.ne w12
      refine wp_region_below (by kernel_rfl) (by kernel_rfl) ?_
      repeat (go_big_quiet_step ((go_at_call 22; exact BW.on _ (HTR.out _))))
      refine wpQuiet_nil ?_
      rintro _ ⟨z, rfl⟩
      have HQ := Veil.mk z.h
      clear d0 d1 d2 e0 e1 e2 HTR b4 k0 k1 k2 hat0 hat2 HEL
      obtain ⟨wE2, hE2⟩ : ∃ wE2, z.w = wE2 := ⟨_, rfl⟩
      rw [hE2] at HQ ⊢
      clear hE2 z hNE
      have HNXT : Veil (LVS w1 h A m b g o ab wb fa fw (j + 1) (at_ + 1) false nx wE2) := ⟨by
       have hb := HQ.out
       have hb8 := blw2 HB12.out.1 hb
       exact ⟨⟨_, ne, xs, st + 1, HL12.out.on hb, HLT9.out.1.more _ (by have := HLT9.out.2.2; omega), fun _ => HLT9.out.2.1, fun h9 => (by cases h9), (by (first | rw [List.length_append, HLT9.out.2.2.1] | rw [List.length_append]); have := HV.out.2.2.2.2.2.1; show ts.length + 1 <= 39 + (j + 1); omega), (by have := HV.out.2.2.2.2.2.2.1; omega), (by have := HV.out.2.2.2.2.2.2.2.1; omega), (by have := HV.out.2.2.2.2.2.2.2.2.1; omega), HV.out.2.2.2.2.2.2.2.2.2⟩, HX8.out.1.below hb8, HX8.out.2.1.below hb8, HX8.out.2.2.1.below hb8, (by have := HV.out.1.at_; omega), (by have := HV.out.1.nx; omega), Nat.le_trans HX8.out.2.2.2.2 hb8.size⟩⟩
      clear HQ HB12 HX8 HL12
      have hatw : IntKind.i64.wrap ((at_ : Int) + 1) = (at_ : Int) + 1 := IntWalk.i64_in _ (by have := HV.out.1.at_; omega)
      go_wp2
      go_roundw
      case rel => exact ⟨j + 1, at_ + 1, nx, false, by omega, by go_num, rfl, rfl, by go_num, HNXT.out⟩
      case measure => simp [intOf]; omega
     ·have key := HLE.out.next_end HV.out.2.2.1 HW9.out (.inl rfl) (by decide) hE9 HV.out.2.2.2.2.2.2.2.1 (by have := HV.out.2.2.2.2.2.2.2.2.1; omega) (by have := HV.out.2.2.2.2.2.1; omega) (by have := HV.out.2.2.2.2.2.2.1; omega) (by have := HV.out.1.at_; omega) (.inr (.inr rfl)) HVE.out.2.2 (by omega)
      obtain ⟨fr, hfr⟩ : ∃ fr : Vt, ((9, (ts.length : Int) + 1, ⟨#[]⟩) : Vt) = fr := ⟨_, rfl⟩
      rw [hfr, show ((9, ((38 : Nat) : Int) + 1, ⟨#[]⟩) : Vt) = fw from HFV.out.2] at key
      have HKEY := Veil.mk key
      have HFR := Veil.mk hfr
      clear key hfr
      have w0 : wE.cell? ⟨wb, 0, none⟩ = some (.int .i64 fw.1) := HVE.out.2.1.at_ 0
      have w1 : wE.cell? ⟨wb, 1, none⟩ = some (.int .i64 fw.2.1) := HVE.out.2.1.at_ 1
      have w2 : wE.cell? ⟨wb, 2, none⟩ = some (.string fw.2.2) := HVE.out.2.1.at_ 2
      go_upto_region 15 with (go_at_call 20; ((with_reducible refine HKEY.out.mono ?_); rintro e w7 ⟨rfl, ⟨ts1, ⟨ob, pv, F, e1⟩, q1⟩, q2, q3⟩; have HR7 := Veil.mk (And.intro e1 (And.intro q1 (And.intro q2 q3))); clear e1 q1 q2 q3))
      clear w0 w1 w2 HKEY hm2 hm3
      obtain ⟨pb, hpb⟩ : ∃ pb, w7.heap.size = pb := ⟨_, rfl⟩
      obtain ⟨w8, hw8⟩ : ∃ w8, w7.alloc (.cells #[.int .i64 fr.1, .int .i64 fr.2.1, .string fr.2.2] 28) = w8 := ⟨_, rfl⟩
      have bx := Box.new w7 28 #[.int .i64 fr.1, .int .i64 fr.2.1, .string fr.2.2]
      have bl : Below w7.heap.size w7 (w7.alloc (.cells #[.int .i64 fr.1, .int .i64 fr.2.1, .string fr.2.2] 28)) := (Below.refl _ _).alloc (Nat.le_refl _) _
      rw [hw8] at bx bl ⊢
      rw [hpb] at bx ⊢
      have HL8 : Veil (LS w1 h A m ((ts.set 38 (TO.wkr o 2 (.slice none 0 0) (at_ : Int))) ++ [(⟨ob, 0, 1, pv, .slice none 0 0, .nilIface, kd0, F, [(kVal, zV, 7), (kDone, tvV true, 7)]⟩ : TO)]) 37 b ne xs (st + 1) (fun k => k = ab \/ k = wb \/ k = g) w8) := ⟨by
       have h9 := HR7.out.2.1
       rw [HR7.out.1] at h9
       exact h9.on bl⟩
      have HX8 := Veil.mk (And.intro ((HR7.out.2.2.1 ab VTy _ (by decide) (.inl rfl) HVE.out.1).below bl) (And.intro ((HR7.out.2.2.1 wb VTy _ (by decide) (.inr (.inl rfl)) HVE.out.2.1).below bl) (And.intro ((HR7.out.2.2.1 g VTy _ (by decide) (.inr (.inr rfl)) HVE.out.2.2).below bl) (And.intro bx (show w1.heap.size <= w8.heap.size from Nat.le_trans HLO8.out (Nat.le_trans HR7.out.2.2.2 bl.size))))))
      have HLT9 : Veil (LawT (ts.set 38 (TO.wkr o 2 (.slice none 0 0) (at_ : Int))) 37 /\ LawW ((ts.set 38 (TO.wkr o 2 (.slice none 0 0) (at_ : Int))) ++ [(⟨ob, 0, 1, pv, .slice none 0 0, .nilIface, kd0, F, [(kVal, zV, 7), (kDone, tvV true, 7)]⟩ : TO)]) 38 o 2 (.slice none 0 0) (at_ : Int) /\ (ts.set 38 (TO.wkr o 2 (.slice none 0 0) (at_ : Int))).length = ts.length /\ ts.length < 99998) := ⟨⟨HV.out.2.2.1.setW _ (by decide), HW9.out.set.more _, List.length_set .., by have := HV.out.2.2.2.2.2.1; omega⟩⟩
      obtain ⟨dv, hdv⟩ : ∃ dv, tvV true = dv := ⟨_, rfl⟩
      have HTR : Veil (∀ w9, Calls Tryz.prog 22 #[valV dv] w9 fun e w' => e = .returned (.bool true) /\ Below w9.heap.size w9 w') := ⟨fun w9 => by rw [<- hdv]; exact true_v true w9⟩
      have HMD : Veil (∀ w9, Below w8.heap.size w8 w9 -> Calls Tryz.prog 21 #[.pointer (some ⟨m, 0, none⟩), valV fr, .string ⟨#[100, 111, 110, 101]⟩] w9 fun e w' => e = .returned (.tuple #[valV dv, .int .i64 0]) /\ Below w9.heap.size w9 w') := ⟨fun w9 hb => by
       have h9 := (HL8.out.on hb).done HLT9.out.1 HLT9.out.2.1 HLT9.out.2.2.1 (by have := HLT9.out.2.2; omega)
       rw [hdv, HFR.out] at h9
       exact h9⟩
      have HMV : Veil (∀ w9, Below w8.heap.size w8 w9 -> Calls Tryz.prog 21 #[.pointer (some ⟨m, 0, none⟩), valV fr, .string ⟨#[118, 97, 108, 117, 101]⟩] w9 fun e w' => e = .returned (.tuple #[valV zV, .int .i64 0]) /\ Below w9.heap.size w9 w') := ⟨fun w9 hb => by
       have h9 := (HL8.out.on hb).value HLT9.out.1 HLT9.out.2.1 HLT9.out.2.2.1 (by have := HLT9.out.2.2; omega)
       rw [HFR.out] at h9
       exact h9⟩
      clear hpb hw8 bx bl HR7 hdv
      have p0 : w8.cell? ⟨pb, 0, none⟩ = some (.int .i64 fr.1) := HX8.out.2.2.2.1.at_ 0
      have p1 : w8.cell? ⟨pb, 1, none⟩ = some (.int .i64 fr.2.1) := HX8.out.2.2.2.1.at_ 1
      have p2 : w8.cell? ⟨pb, 2, none⟩ = some (.string fr.2.2) := HX8.out.2.2.2.1.at_ 2
      go_upto_region 16 with (go_at_call 21; ((with_reducible refine (HMD.out w8 (Below.refl _ _)).mono ?_); rintro e w9 ⟨rfl, hb9⟩; have HB9 := Veil.mk hb9; clear hb9))
      clear p0 p1 p2 HMD
      obtain ⟨db, hdb⟩ : ∃ db, w9.heap.size = db := ⟨_, rfl⟩
      obtain ⟨w10, hw10⟩ : ∃ w10, w9.alloc (.cells #[.int .i64 dv.1, .int .i64 dv.2.1, .string dv.2.2] 28) = w10 := ⟨_, rfl⟩
      have bx := Box.new w9 28 #[.int .i64 dv.1, .int .i64 dv.2.1, .string dv.2.2]
      have bl : Below w9.heap.size w9 (w9.alloc (.cells #[.int .i64 dv.1, .int .i64 dv.2.1, .string dv.2.2] 28)) := (Below.refl _ _).alloc (Nat.le_refl _) _
      rw [hw10] at bx bl ⊢
      rw [hdb] at bx ⊢
      have HB10 := Veil.mk (And.intro (blw2 HB9.out bl) bx)
      have hpb10 := HX8.out.2.2.2.1.below HB10.out.1
      clear hdb hw10 bx bl HB9
      have p0 : w10.cell? ⟨pb, 0, none⟩ = some (.int .i64 fr.1) := hpb10.at_ 0
      have p1 : w10.cell? ⟨pb, 1, none⟩ = some (.int .i64 fr.2.1) := hpb10.at_ 1
      have p2 : w10.cell? ⟨pb, 2, none⟩ = some (.string fr.2.2) := hpb10.at_ 2
      go_upto_region 17 with (go_at_call 21; ((with_reducible refine (HMV.out w10 HB10.out.1).mono ?_); rintro e w11 ⟨rfl, hb11⟩; have HB11 := Veil.mk hb11; clear hb11))
      clear p0 p1 p2 HMV hpb10
      obtain ⟨xb, hxb⟩ : ∃ xb, w11.heap.size = xb := ⟨_, rfl⟩
      obtain ⟨w12, hw12⟩ : ∃ w12, w11.alloc (.cells #[.int .i64 0, .int .i64 0, .string ⟨#[]⟩] 28) = w12 := ⟨_, rfl⟩
      have bx := Box.new w11 28 #[.int .i64 0, .int .i64 0, .string ⟨#[]⟩]
      have bl : Below w11.heap.size w11 (w11.alloc (.cells #[.int .i64 0, .int .i64 0, .string ⟨#[]⟩] 28)) := (Below.refl _ _).alloc (Nat.le_refl _) _
      rw [hw12] at bx bl ⊢
      rw [hxb] at bx ⊢
      have hb812 := blw2 HB10.out.1 (blw2 HB11.out bl)
      have HB12 := Veil.mk (And.intro hb812 (And.intro (HB10.out.2.below (blw2 HB11.out bl)) bx))
      have HL12 := Veil.mk (HL8.out.on hb812)
      clear hxb hw12 bx bl HB11 HB10 HL8 hb812
      obtain ⟨ev9, na9, ca9, xs9, m1, m2, m3, -⟩ := HL12.out.x
      have hbb := m1.mem_b (List.mem_of_getElem? (List.getElem?_set_self (show 37 < ((ts.set 38 (TO.wkr o 2 (.slice none 0 0) (at_ : Int))) ++ [(⟨ob, 0, 1, pv, .slice none 0 0, .nilIface, kd0, F, [(kVal, zV, 7), (kDone, tvV true, 7)]⟩ : TO)]).length by rw [List.length_append]; have := HLT9.out.1.lt; omega))) rfl
      obtain ⟨ao9, cap9, rfl⟩ := m2.evs
      have b4 : w12.cell? ⟨b, 4, none⟩ = some (.slice ao9 ne cap9) := hbb.at_ 4
      clear m1 m2 m3 hbb
      have hat1 : (ne : Int) <= (at_ : Int) := by first | trivial | omega
      go_upto_region 18 with (fail)
      clear b4
      have d0 : ∀ z : BW w12, z.w.cell? ⟨db, 0, none⟩ = some (.int .i64 dv.1) := fun z => (HB12.out.2.1.below z.h).at_ 0
      have d1 : ∀ z : BW w12, z.w.cell? ⟨db, 1, none⟩ = some (.int .i64 dv.2.1) := fun z => (HB12.out.2.1.below z.h).at_ 1
      have d2 : ∀ z : BW w12, z.w.cell? ⟨db, 2, none⟩ = some (.string dv.2.2) := fun z => (HB12.out.2.1.below z.h).at_ 2
      have e0 : ∀ z : BW w12, z.w.cell? ⟨xb, 0, none⟩ = some (.int .i64 0) := fun z => (HB12.out.2.2.below z.h).at_ 0
      have e1 : ∀ z : BW w12, z.w.cell? ⟨xb, 1, none⟩ = some (.int .i64 0) := fun z => (HB12.out.2.2.below z.h).at_ 1
      have e2 : ∀ z : BW w12, z.w.cell? ⟨xb, 2, none⟩ = some (.string ⟨#[]⟩) := fun z => (HB12.out.2.2.below z.h).at_ 2
      clear hw1
      have hNE := BW.ne w12
      refine wp_region_below (by kernel_rfl) (by kernel_rfl) ?_
      repeat (go_big_quiet_step ((go_at_call 22; exact BW.on _ (HTR.out _))))
      refine wpQuiet_nil ?_
      rintro _ ⟨z, rfl⟩
      have HQ := Veil.mk z.h
      clear d0 d1 d2 e0 e1 e2 HTR
      obtain ⟨wE2, hE2⟩ : ∃ wE2, z.w = wE2 := ⟨_, rfl⟩
      rw [hE2] at HQ ⊢
      clear hE2 z hNE
      have HNXT : Veil (LVS w1 h A m b g o ab wb fa fw (j + 1) (at_) true nx wE2) := ⟨by
       have hb := HQ.out
       have hb8 := blw2 HB12.out.1 hb
       exact ⟨⟨_, ne, xs, st + 1, HL12.out.on hb, HLT9.out.1.more _ (by have := HLT9.out.2.2; omega), fun h9 => (by cases h9), fun _ => ⟨_, HLT9.out.2.1⟩, (by (first | rw [List.length_append, HLT9.out.2.2.1] | rw [List.length_append]); have := HV.out.2.2.2.2.2.1; show ts.length + 1 <= 39 + (j + 1); omega), (by have := HV.out.2.2.2.2.2.2.1; omega), (by have := HV.out.2.2.2.2.2.2.2.1; omega), (by have := HV.out.2.2.2.2.2.2.2.2.1; omega), HV.out.2.2.2.2.2.2.2.2.2⟩, HX8.out.1.below hb8, HX8.out.2.1.below hb8, HX8.out.2.2.1.below hb8, (by have := HV.out.1.at_; omega), (by have := HV.out.1.nx; omega), Nat.le_trans HX8.out.2.2.2.2 hb8.size⟩⟩
      clear HQ HB12 HX8 HL12
      go_wp2
      go_roundw
      case rel => exact ⟨j + 1, at_, nx, true, by omega, rfl, rfl, rfl, by go_num, HNXT.out⟩
      case measure => simp [intOf]; omega
    ·obtain ⟨pgo, hgo⟩ := HV.out.2.2.2.2.1 rfl
     have key := HLE.out.next_gone HV.out.2.2.1 hgo (.inl rfl) (by decide) hE9 HV.out.2.2.2.2.2.2.2.1 (by have := HV.out.2.2.2.2.2.2.2.2.1; omega) (by have := HV.out.2.2.2.2.2.1; omega)
     obtain ⟨fr, hfr⟩ : ∃ fr : Vt, ((9, (ts.length : Int) + 1, ⟨#[]⟩) : Vt) = fr := ⟨_, rfl⟩
     rw [hfr, show ((9, ((38 : Nat) : Int) + 1, ⟨#[]⟩) : Vt) = fw from HFV.out.2] at key
     have HKEY := Veil.mk key
     have HFR := Veil.mk hfr
     clear key hfr
     have w0 : wE.cell? ⟨wb, 0, none⟩ = some (.int .i64 fw.1) := HVE.out.2.1.at_ 0
     have w1 : wE.cell? ⟨wb, 1, none⟩ = some (.int .i64 fw.2.1) := HVE.out.2.1.at_ 1
     have w2 : wE.cell? ⟨wb, 2, none⟩ = some (.string fw.2.2) := HVE.out.2.1.at_ 2
     go_upto_region 15 with (go_at_call 20; ((with_reducible refine HKEY.out.mono ?_); rintro e w7 ⟨rfl, ⟨ts1, ⟨ob, pv, F, e1⟩, q1⟩, q2, q3⟩; have HR7 := Veil.mk (And.intro e1 (And.intro q1 (And.intro q2 q3))); clear e1 q1 q2 q3))
     clear w0 w1 w2 HKEY hm2 hm3
     obtain ⟨pb, hpb⟩ : ∃ pb, w7.heap.size = pb := ⟨_, rfl⟩
     obtain ⟨w8, hw8⟩ : ∃ w8, w7.alloc (.cells #[.int .i64 fr.1, .int .i64 fr.2.1, .string fr.2.2] 28) = w8 := ⟨_, rfl⟩
     have bx := Box.new w7 28 #[.int .i64 fr.1, .int .i64 fr.2.1, .string fr.2.2]
     have bl : Below w7.heap.size w7 (w7.alloc (.cells #[.int .i64 fr.1, .int .i64 fr.2.1, .string fr.2.2] 28)) := (Below.refl _ _).alloc (Nat.le_refl _) _
     rw [hw8] at bx bl ⊢
     rw [hpb] at bx ⊢
     have HL8 : Veil (LS w1 h A m ((ts) ++ [(⟨ob, 0, 1, pv, .slice none 0 0, .nilIface, kd0, F, [(kVal, zV, 7), (kDone, tvV true, 7)]⟩ : TO)]) 37 b ne xs (st + 1) (fun k => k = ab \/ k = wb \/ k = g) w8) := ⟨by
      have h9 := HR7.out.2.1
      rw [HR7.out.1] at h9
      exact h9.on bl⟩
     have HX8 := Veil.mk (And.intro ((HR7.out.2.2.1 ab VTy _ (by decide) (.inl rfl) HVE.out.1).below bl) (And.intro ((HR7.out.2.2.1 wb VTy _ (by decide) (.inr (.inl rfl)) HVE.out.2.1).below bl) (And.intro ((HR7.out.2.2.1 g VTy _ (by decide) (.inr (.inr rfl)) HVE.out.2.2).below bl) (And.intro bx (show w1.heap.size <= w8.heap.size from Nat.le_trans HLO8.out (Nat.le_trans HR7.out.2.2.2 bl.size))))))
     have HLT9 : Veil (LawT (ts) 37 /\ LawW ((ts) ++ [(⟨ob, 0, 1, pv, .slice none 0 0, .nilIface, kd0, F, [(kVal, zV, 7), (kDone, tvV true, 7)]⟩ : TO)]) 38 o 2 (.slice none 0 0) pgo /\ (ts).length = ts.length /\ ts.length < 99998) := ⟨⟨HV.out.2.2.1, hgo.more _, rfl, by have := HV.out.2.2.2.2.2.1; omega⟩⟩
     obtain ⟨dv, hdv⟩ : ∃ dv, tvV true = dv := ⟨_, rfl⟩
     have HTR : Veil (∀ w9, Calls Tryz.prog 22 #[valV dv] w9 fun e w' => e = .returned (.bool true) /\ Below w9.heap.size w9 w') := ⟨fun w9 => by rw [<- hdv]; exact true_v true w9⟩
     have HMD : Veil (∀ w9, Below w8.heap.size w8 w9 -> Calls Tryz.prog 21 #[.pointer (some ⟨m, 0, none⟩), valV fr, .string ⟨#[100, 111, 110, 101]⟩] w9 fun e w' => e = .returned (.tuple #[valV dv, .int .i64 0]) /\ Below w9.heap.size w9 w') := ⟨fun w9 hb => by
      have h9 := (HL8.out.on hb).done HLT9.out.1 HLT9.out.2.1 HLT9.out.2.2.1 (by have := HLT9.out.2.2; omega)
      rw [hdv, HFR.out] at h9
      exact h9⟩
     have HMV : Veil (∀ w9, Below w8.heap.size w8 w9 -> Calls Tryz.prog 21 #[.pointer (some ⟨m, 0, none⟩), valV fr, .string ⟨#[118, 97, 108, 117, 101]⟩] w9 fun e w' => e = .returned (.tuple #[valV zV, .int .i64 0]) /\ Below w9.heap.size w9 w') := ⟨fun w9 hb => by
      have h9 := (HL8.out.on hb).value HLT9.out.1 HLT9.out.2.1 HLT9.out.2.2.1 (by have := HLT9.out.2.2; omega)
      rw [HFR.out] at h9
      exact h9⟩
     clear hpb hw8 bx bl HR7 hdv
     have p0 : w8.cell? ⟨pb, 0, none⟩ = some (.int .i64 fr.1) := HX8.out.2.2.2.1.at_ 0
     have p1 : w8.cell? ⟨pb, 1, none⟩ = some (.int .i64 fr.2.1) := HX8.out.2.2.2.1.at_ 1
     have p2 : w8.cell? ⟨pb, 2, none⟩ = some (.string fr.2.2) := HX8.out.2.2.2.1.at_ 2
     go_upto_region 16 with (go_at_call 21; ((with_reducible refine (HMD.out w8 (Below.refl _ _)).mono ?_); rintro e w9 ⟨rfl, hb9⟩; have HB9 := Veil.mk hb9; clear hb9))
     clear p0 p1 p2 HMD
     obtain ⟨db, hdb⟩ : ∃ db, w9.heap.size = db := ⟨_, rfl⟩
     obtain ⟨w10, hw10⟩ : ∃ w10, w9.alloc (.cells #[.int .i64 dv.1, .int .i64 dv.2.1, .string dv.2.2] 28) = w10 := ⟨_, rfl⟩
     have bx := Box.new w9 28 #[.int .i64 dv.1, .int .i64 dv.2.1, .string dv.2.2]
     have bl : Below w9.heap.size w9 (w9.alloc (.cells #[.int .i64 dv.1, .int .i64 dv.2.1, .string dv.2.2] 28)) := (Below.refl _ _).alloc (Nat.le_refl _) _
     rw [hw10] at bx bl ⊢
     rw [hdb] at bx ⊢
     have HB10 := Veil.mk (And.intro (blw2 HB9.out bl) bx)
     have hpb10 := HX8.out.2.2.2.1.below HB10.out.1
     clear hdb hw10 bx bl HB9
     have p0 : w10.cell? ⟨pb, 0, none⟩ = some (.int .i64 fr.1) := hpb10.at_ 0
     have p1 : w10.cell? ⟨pb, 1, none⟩ = some (.int .i64 fr.2.1) := hpb10.at_ 1
     have p2 : w10.cell? ⟨pb, 2, none⟩ = some (.string fr.2.2) := hpb10.at_ 2
     go_upto_region 17 with (go_at_call 21; ((with_reducible refine (HMV.out w10 HB10.out.1).mono ?_); rintro e w11 ⟨rfl, hb11⟩; have HB11 := Veil.mk hb11; clear hb11))
     clear p0 p1 p2 HMV hpb10
     obtain ⟨xb, hxb⟩ : ∃ xb, w11.heap.size = xb := ⟨_, rfl⟩
     obtain ⟨w12, hw12⟩ : ∃ w12, w11.alloc (.cells #[.int .i64 0, .int .i64 0, .string ⟨#[]⟩] 28) = w12 := ⟨_, rfl⟩
     have bx := Box.new w11 28 #[.int .i64 0, .int .i64 0, .string ⟨#[]⟩]
     have bl : Below w11.heap.size w11 (w11.alloc (.cells #[.int .i64 0, .int .i64 0, .string ⟨#[]⟩] 28)) := (Below.refl _ _).alloc (Nat.le_refl _) _
     rw [hw12] at bx bl ⊢
     rw [hxb] at bx ⊢
     have hb812 := blw2 HB10.out.1 (blw2 HB11.out bl)
     have HB12 := Veil.mk (And.intro hb812 (And.intro (HB10.out.2.below (blw2 HB11.out bl)) bx))
     have HL12 := Veil.mk (HL8.out.on hb812)
     clear hxb hw12 bx bl HB11 HB10 HL8 hb812
     obtain ⟨ev9, na9, ca9, xs9, m1, m2, m3, -⟩ := HL12.out.x
     have hbb := m1.mem_b (List.mem_of_getElem? (List.getElem?_set_self (show 37 < ((ts) ++ [(⟨ob, 0, 1, pv, .slice none 0 0, .nilIface, kd0, F, [(kVal, zV, 7), (kDone, tvV true, 7)]⟩ : TO)]).length by rw [List.length_append]; have := HLT9.out.1.lt; omega))) rfl
     obtain ⟨ao9, cap9, rfl⟩ := m2.evs
     have b4 : w12.cell? ⟨b, 4, none⟩ = some (.slice ao9 ne cap9) := hbb.at_ 4
     clear m1 m2 m3 hbb
     have hat1 : True := by first | trivial | omega
     go_upto_region 18 with (fail)
     clear b4
     have d0 : ∀ z : BW w12, z.w.cell? ⟨db, 0, none⟩ = some (.int .i64 dv.1) := fun z => (HB12.out.2.1.below z.h).at_ 0
     have d1 : ∀ z : BW w12, z.w.cell? ⟨db, 1, none⟩ = some (.int .i64 dv.2.1) := fun z => (HB12.out.2.1.below z.h).at_ 1
     have d2 : ∀ z : BW w12, z.w.cell? ⟨db, 2, none⟩ = some (.string dv.2.2) := fun z => (HB12.out.2.1.below z.h).at_ 2
     have e0 : ∀ z : BW w12, z.w.cell? ⟨xb, 0, none⟩ = some (.int .i64 0) := fun z => (HB12.out.2.2.below z.h).at_ 0
     have e1 : ∀ z : BW w12, z.w.cell? ⟨xb, 1, none⟩ = some (.int .i64 0) := fun z => (HB12.out.2.2.below z.h).at_ 1
     have e2 : ∀ z : BW w12, z.w.cell? ⟨xb, 2, none⟩ = some (.string ⟨#[]⟩) := fun z => (HB12.out.2.2.below z.h).at_ 2
     clear hw1
     have hNE := BW.ne w12
     refine wp_region_below (by kernel_rfl) (by kernel_rfl) ?_
     repeat (go_big_quiet_step ((go_at_call 22; exact BW.on _ (HTR.out _))))
     refine wpQuiet_nil ?_
     rintro _ ⟨z, rfl⟩
     have HQ := Veil.mk z.h
     clear d0 d1 d2 e0 e1 e2 HTR
     obtain ⟨wE2, hE2⟩ : ∃ wE2, z.w = wE2 := ⟨_, rfl⟩
     rw [hE2] at HQ ⊢
     clear hE2 z hNE
     have HNXT : Veil (LVS w1 h A m b g o ab wb fa fw (j + 1) (at_) true nx wE2) := ⟨by
      have hb := HQ.out
      have hb8 := blw2 HB12.out.1 hb
      exact ⟨⟨_, ne, xs, st + 1, HL12.out.on hb, HLT9.out.1.more _ (by have := HLT9.out.2.2; omega), fun h9 => (by cases h9), fun _ => ⟨_, HLT9.out.2.1⟩, (by (first | rw [List.length_append, HLT9.out.2.2.1] | rw [List.length_append]); have := HV.out.2.2.2.2.2.1; show ts.length + 1 <= 39 + (j + 1); omega), (by have := HV.out.2.2.2.2.2.2.1; omega), (by have := HV.out.2.2.2.2.2.2.2.1; omega), (by have := HV.out.2.2.2.2.2.2.2.2.1; omega), HV.out.2.2.2.2.2.2.2.2.2⟩, HX8.out.1.below hb8, HX8.out.2.1.below hb8, HX8.out.2.2.1.below hb8, (by have := HV.out.1.at_; omega), (by have := HV.out.1.nx; omega), Nat.le_trans HX8.out.2.2.2.2 hb8.size⟩⟩
     clear HQ HB12 HX8 HL12
     go_wp2
     go_roundw
     case rel => exact ⟨j + 1, at_, nx, true, by omega, rfl, rfl, rfl, by go_num, HNXT.out⟩
     case measure => simp [intOf]; omega
  ·have hge : ¬ (j : Int) < (n : Int) := by omega
   have HBL : Veil (Below w.heap.size w wr) := ⟨by
    obtain ⟨ts, ne, xs, st, hls, -⟩ := hv.x
    exact HB6.out.trans (hls.bel.mono HB6.out.size)⟩
   clear hv
   go_wp2
   go_ret
   exact ⟨rfl, HBL.out⟩
theorem live_law (w : World) (a : Option Addr) (n cap : Nat) (l : List Int) (hN : IntsL w a n l) (hT : Lib.TabIs Tryz.prog w "strings.asciiSpace" .u8 Lib.asciiSpaceTab) (hP : Lib.TabIs Tryz.prog w "internal/strconv.uint64pow10" .u64 Lib.pow10Tab) :
  Calls Tryz.prog 5 #[.slice a n cap] w fun e w' => e = .returned (.bool true) /\ Below w.heap.size w w' := by
 by_cases h : 100 < n
 ·exact live_law_long w a n cap hT h
 ·obtain rfl : l.length = n := hN.1
  exact live_law_short w a cap l hN hT hP (by omega)
end Go.Proofs.YtahkohfppakaiaaGreatDoor
