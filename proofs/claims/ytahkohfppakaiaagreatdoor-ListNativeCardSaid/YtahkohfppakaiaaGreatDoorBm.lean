/- Texts of the stage, joined: Ut Uu Uv Uw Ux Uy Uz Za Zb Zc Zd Ze Zf Zg Zh Zi Zj Zk Zl Zm Zn Zo Zp Zq Zr Zs Zt Zu Zv Zw Zx Zy La Lb Lc Ld. -/
import Derived.Test.YtahkohfppakaiaaGreatDoorBl
import Derived.Test.YtahkohfppakaiaaGreatDoorBk
import Derived.BigQuiet
import Derived.Deep.QuietTactic
import Derived.Test.YtahkohfppakaiaaGreatDoorBe
import Derived.Test.YtahkohfppakaiaaGreatDoorBh
import Derived.Test.YtahkohfppakaiaaGreatDoorBf
import Derived.Test.YtahkohfppakaiaaGreatDoorBb
set_option maxHeartbeats 40000000
set_option maxRecDepth 100000
namespace Go.Proofs.YtahkohfppakaiaaGreatDoor
open Go Go.RowKit
theorem own_outF {w : World} {B o n : Nat} {proto : Int} {cs : Bool} {pv fn : Value} {kd : KD} {ev : Value} {xs : Nat -> Vt} (hb : Box w o 63 (objF 1 proto cs pv ev fn kd)) (he : EL w B ev n xs) (s : ByteArray) (hs : s.size <= 16777216) (hsl : (s.toList == [0, 108, 0, 101, 0, 110, 0, 103, 0, 116, 0, 104]) = false) (i : Nat) (hix : W.idxU (W.unitsS s) = (i : Int)) (hin : n <= i) :
  Calls Tryz.prog 71 #[.pointer (some ⟨o, 0, none⟩), valV (7, 0, s)] w fun e w' => e = .returned (.tuple #[zeroV, .int .i64 0, .bool false]) /\ Below w.heap.size w w' := by
 have hlt := hb.lt
 have HIL : Veil (∀ W, Below w.heap.size w W -> Calls Tryz.prog 107 #[.pointer (some ⟨o, 0, none⟩), valV (7, 0, s)] W fun e w' => e = .returned (.bool false) /\ Below W.heap.size W w') := ⟨fun W hbw => isLen_noF (hb.below hbw) s hsl⟩
 have HEM : Veil (∀ W, Below w.heap.size w W -> Calls Tryz.prog 109 #[.pointer (some ⟨o, 0, none⟩), valV (7, 0, s)] W fun e w' => e = .returned (.int .i64 (i : Int)) /\ Below W.heap.size W w') := ⟨fun W hbw => elem_arrF (hb.below hbw) s hs _ hix⟩
 obtain ⟨kb, hkb⟩ : ∃ kb, w.heap.size = kb := ⟨_, rfl⟩
 obtain ⟨rb, hrb⟩ : ∃ rb, kb + 1 = rb := ⟨_, rfl⟩
 have b1 := (Box.new w 28 #[.int .i64 7, .int .i64 0, .string s]).more (.cells #[.int .i64 0, .int .i64 0, .string ⟨#[]⟩] 28)
 have b2 := Box.new (w.alloc (.cells #[.int .i64 7, .int .i64 0, .string s] 28)) 28 #[.int .i64 0, .int .i64 0, .string ⟨#[]⟩]
 have bb : Below w.heap.size w ((w.alloc (.cells #[.int .i64 7, .int .i64 0, .string s] 28)).alloc (.cells #[.int .i64 0, .int .i64 0, .string ⟨#[]⟩] 28)) := ((Below.refl _ _).alloc (Nat.le_refl _) _).alloc (by simp) _
 rw [World.size_alloc] at b2
 obtain ⟨W0, hW0⟩ : ∃ W0, ((w.alloc (.cells #[.int .i64 7, .int .i64 0, .string s] 28)).alloc (.cells #[.int .i64 0, .int .i64 0, .string ⟨#[]⟩] 28)) = W0 := ⟨_, rfl⟩
 rw [hW0] at b1 b2 bb
 have HW0 := Veil.mk (And.intro hW0 (And.intro hkb hrb))
 have HBO := Veil.mk (And.intro hb (And.intro bb he))
 rw [hkb] at b1 b2 ⊢
 rw [hrb] at b2
 have HB12 := Veil.mk (And.intro b1 b2)
 have x0 : W0.cell? ⟨kb, 0, none⟩ = some (.int .i64 7) := b1.at_ 0
 have x1 : W0.cell? ⟨kb, 1, none⟩ = some (.int .i64 0) := b1.at_ 1
 have x2 : W0.cell? ⟨kb, 2, none⟩ = some (.string s) := b1.at_ 2
 clear hb he b1 b2 bb hW0 hkb hrb hlt
 go_enter Tryz.func71, Tryz.ntmps71
 go_upto_region 1 with (fail)
 rw [HW0.out.1, HW0.out.2.1, HW0.out.2.2]
 obtain ⟨ao, cap, rfl⟩ : ∃ ao cap, ev = .slice ao n cap := by
  rcases HBO.out.2.2 with ⟨e1, e2⟩ | ⟨g, cap, e1, _⟩
  ·exact ⟨none, 0, by rw [e1, e2]⟩
  ·exact ⟨_, _, e1⟩
 go_upto_region 5 with (go_at_call 107; ((with_reducible refine (HIL.out _ HBO.out.2.1).mono ?_); rintro e w1 ⟨rfl, hb1⟩))
 have HB1 := Veil.mk (blw2 HBO.out.2.1 hb1)
 have q1 := HB12.out.1.on hb1 HB12.out.1.lt
 have HB2 := Veil.mk (HB12.out.2.on hb1 HB12.out.2.lt)
 clear x0 x1 x2
 have x0 : w1.cell? ⟨kb, 0, none⟩ = some (.int .i64 7) := q1.at_ 0
 have x1 : w1.cell? ⟨kb, 1, none⟩ = some (.int .i64 0) := q1.at_ 1
 have x2 : w1.cell? ⟨kb, 2, none⟩ = some (.string s) := q1.at_ 2
 clear hb1 q1
 go_upto_region 8 with (go_at_call 109; ((with_reducible refine (HEM.out _ HB1.out).mono ?_); rintro e w3 ⟨rfl, hb3⟩))
 have HBX : Veil (Below w.heap.size w w3) := ⟨blw2 HB1.out hb3⟩
 have HKX := Veil.mk (HB2.out.on hb3 HB2.out.lt)
 have o4 : w3.cell? ⟨o, 4, none⟩ = some (.slice ao n cap) := (HBO.out.1.below HBX.out).at_ 4
 clear x0 x1 x2 hb3 HB1 HB2 HB12 HIL HEM
 have r0 : w3.cell? ⟨rb, 0, none⟩ = some (.int .i64 0) := HKX.out.at_ 0
 have r1 : w3.cell? ⟨rb, 1, none⟩ = some (.int .i64 0) := HKX.out.at_ 1
 have r2 : w3.cell? ⟨rb, 2, none⟩ = some (.string ⟨#[]⟩) := HKX.out.at_ 2
 have g0 := HKX.out.free 0
 have g1 := HKX.out.free 1
 have g2 := HKX.out.free 2
 have hi0 : ¬ (i : Int) < 0 := by omega
 have hin' : (n : Int) <= (i : Int) := by omega
 go_wp2
 have hb9 : Below w.heap.size w (((w3.setCell ⟨rb, 0, none⟩ (.int .i64 0)).setCell ⟨rb, 1, none⟩ (.int .i64 0)).setCell ⟨rb, 2, none⟩ (.string ⟨#[]⟩)) := ((HBX.out.setCell (p := ⟨rb, 0, none⟩) (by have := HW0.out.2.1; have := HW0.out.2.2; show w.heap.size <= rb; omega) _).setCell (p := ⟨rb, 1, none⟩) (by have := HW0.out.2.1; have := HW0.out.2.2; show w.heap.size <= rb; omega) _).setCell (p := ⟨rb, 2, none⟩) (by have := HW0.out.2.1; have := HW0.out.2.2; show w.heap.size <= rb; omega) _
 have hr3 := ((HKX.out.put 0 (.int .i64 0)).put 1 (.int .i64 0)).put 2 (.string ⟨#[]⟩)
 generalize ((w3.setCell ⟨rb, 0, none⟩ (.int .i64 0)).setCell ⟨rb, 1, none⟩ (.int .i64 0)).setCell ⟨rb, 2, none⟩ (.string ⟨#[]⟩) = w9 at hr3 hb9 ⊢
 have y0 : w9.cell? ⟨rb, 0, none⟩ = some (.int .i64 0) := hr3.at_ 0
 have y1 : w9.cell? ⟨rb, 1, none⟩ = some (.int .i64 0) := hr3.at_ 1
 have y2 : w9.cell? ⟨rb, 2, none⟩ = some (.string ⟨#[]⟩) := hr3.at_ 2
 have hfin : Below kb w w9 := by rw [<- HW0.out.2.1]; exact hb9
 exact bodyPost_ret (v := .tuple #[zeroV, .int .i64 0, .bool false]) (by simp [results, Tryz.results71, go_sem, y0, y1, y2]) rfl ⟨rfl, hfin⟩
theorem ElP.pre {w W w' : World} {B o n n' : Nat} {proto : Int} {ev : Value} {xs : Nat -> Vt} (hb : Below w.heap.size w W) (h : ElP W B o proto ev n xs n' w') : ElP w B o proto ev n xs n' w' := by
 obtain ⟨ev', xs', a, b, d, e, g⟩ := h
 exact ⟨ev', xs', a, b, (Touch.of_below (S := fun k => k = o \/ ev.ownBlock = some k) hb).trans d, fun k hk => (e k hk).imp id (fun h => Nat.le_trans hb.size h), g⟩
theorem ElQ.pre {w W w' : World} {B o n n' i : Nat} {v : Vt} {proto : Int} {ev : Value} {xs : Nat -> Vt} (hb : Below w.heap.size w W) (h : ElQ W B o proto ev n xs n' i v w') : ElQ w B o proto ev n xs n' i v w' := by
 obtain ⟨ev', xs', a, b, c, d, e⟩ := h
 exact ⟨ev', xs', a, b, c, (Touch.of_below (S := fun k => k = o \/ ev.ownBlock = some k) hb).trans d, fun k hk => (e k hk).imp id (fun h => Nat.le_trans hb.size h)⟩
structure AS (W : World) (h A m : Nat) (f : MF) (ts : List TO) (ia b : Nat) (V0 : Nat -> Prop) (n : Nat) (xs : Nat -> Vt) (E : Nat -> Prop) (w : World) : Prop where
 x : ∃ ev xs0, MP w h A m f (ts.set ia (TO.arr b 3 ev)) /\ EL w A ev n xs0 /\ (∀ j, j < n -> xs0 j = xs j) /\ Bv A V0 W w /\ ∀ k, ev.ownBlock = some k -> (V0 k \/ W.heap.size <= k) /\ ¬ E k
section
variable {W w w' : World} {h A m ia b n : Nat} {f : MF} {ts : List TO} {V0 E : Nat -> Prop} {xs : Nat -> Vt}
theorem AS.on (H : AS W h A m f ts ia b V0 n xs E w) (hb : Below w.heap.size w w') : AS W h A m f ts ia b V0 n xs E w' := by
 obtain ⟨ev, xs0, h1, h2, h3, h4, h5⟩ := H.x
 exact ⟨ev, xs0, h1.on hb, h2.on hb, h3, h4.trans ((Bk.of_below (Nat.le_of_lt h1.mm.alt) hb).bv (fun _ => False)) (fun k hk => hk.elim), h5⟩
theorem AS.excl (H : AS W h A m f ts ia b V0 n xs E w) {E' : Nat -> Prop} (hE : ∀ k, E' k -> E k \/ w.heap.size <= k) : AS W h A m f ts ia b V0 n xs E' w := by
 obtain ⟨ev, xs0, h1, h2, h3, h4, h5⟩ := H.x
 refine ⟨ev, xs0, h1, h2, h3, h4, fun k hk => ⟨(h5 k hk).1, fun h9 => ?_⟩⟩
 rcases hE k h9 with h8 | h8
 ·exact (h5 k hk).2 h8
 ·have := (h2.own_lt k hk).2.1
  omega
theorem AS.put (H : AS W h A m f ts ia b V0 n xs E w) {g : Nat} (hl : Lab w g VTy) (hg : E g) (hn : W.heap.size <= g) (hA : A <= W.heap.size) (i : Nat) (u : Value) : AS W h A m f ts ia b V0 n xs E (w.setCell ⟨g, i, none⟩ u) := by
 obtain ⟨ev, xs0, h1, h2, h3, h4, h5⟩ := H.x
 have ht : Touch (fun k => k = g) w (w.setCell ⟨g, i, none⟩ u) := Touch.put (S := fun k => k = g) rfl _ _
 have hbv : Bv A (fun k => k = g) w (w.setCell ⟨g, i, none⟩ u) := Bv.touch ht (Nat.le_of_lt h1.mm.alt) (fun k hk => by omega)
 exact ⟨ev, xs0, h1.putv hl i u, h2.put g i u (fun ad n2 cap e e9 => (h5 ad.block (by rw [e]; rfl)).2 (by rw [e9]; exact hg)), h3, h4.trans hbv (fun k hk => .inr (by omega)), h5⟩
theorem AS.lt (H : AS W h A m f ts ia b V0 n xs E w) : A <= w.heap.size := by
 obtain ⟨ev, xs0, h1, h2, h3, h4, h5⟩ := H.x
 exact Nat.le_of_lt h1.mm.alt
theorem AS.step {ev ev' : Value} {n' : Nat} {xs' ys : Nat -> Vt} (hm : MP w h A m f (ts.set ia (TO.arr b 3 ev))) (hia : ia < ts.length) {xs0 : Nat -> Vt} (hel : EL w A ev n xs0) (hbv : Bv A V0 W w) (hown : ∀ k, ev.ownBlock = some k -> (V0 k \/ W.heap.size <= k) /\ ¬ E k) (hE : ∀ k, E k -> k < w.heap.size) (hsz : W.heap.size <= w.heap.size)
  (hbx : Box w' b 63 (objC 1 3 false (.pointer none) ev')) (hel' : EL w' A ev' n' xs') (ht : Touch (fun k => k = b \/ ev.ownBlock = some k) w w') (hnew : ∀ k, ev'.ownBlock = some k -> ev.ownBlock = some k \/ w.heap.size <= k) (hys : ∀ j, j < n' -> xs' j = ys j) : AS W h A m f ts ia b V0 n' ys E w' := by
 have hat : (ts.set ia (TO.arr b 3 ev))[ia]? = some (TO.arr b 3 ev) := List.getElem?_set_self hia
 have hst := hm.stepV_at (V := fun k => ev.ownBlock = some k) (W' := w') hat rfl (.pointer none) ev' .nilIface kd0 (fun _ => False) [] (fun k hk => ⟨(hel.own_lt k hk).1, (hel.own_lt k hk).2.2⟩) (ht.mono (fun k hk => hk.elim (fun e => .inl e) (fun e => .inr (.inr e)))) hbx (.inl ⟨rfl, rfl, rfl⟩) (fun k hk => hk.elim)
 rw [List.set_set] at hst
 refine ⟨ev', xs', hst.1, hel', hys, hbv.trans hst.2 (fun k hk => (hown k hk).1), fun k hk => ?_⟩
 rcases hnew k hk with h9 | h9
 ·exact hown k h9
 ·exact ⟨.inr (Nat.le_trans hsz h9), fun h8 => by have := hE k h8; omega⟩
variable {t2 : TO}
theorem proto_none (hm : MP w h A m f ts) (ht2 : ts[2]? = some t2) (hp2 : PlT t2 1 e2W) (i : Nat) (hi : i < 512) (hl : ts.length < 1000000) :
  Calls Tryz.prog 94 #[.pointer (some ⟨h, 0, none⟩), .int .i64 3, valV (7, 0, kI i)] w fun e w' => e = .returned (.tuple #[valV (0, 0, ⟨#[]⟩), .int .i64 0, .bool false]) /\ Below w.heap.size w w' := by
 obtain ⟨p1, p2, p3, p4, p5, p6⟩ := hp2
 obtain ⟨k1, k2, k3⟩ := kI_all i hi
 have := hm.find1 hl 2 t2 ht2 (by rw [p1]; rfl) p2 (7, 0, kI i) ((0, 0, ⟨#[]⟩), 0, false) (fun W' hb => by
  have hbx := (hm.on hb).mem_b (List.mem_of_getElem? ht2) (by rw [p1]; rfl)
  rw [p1, p3] at hbx
  exact own_outF (B := A) (n := 0) (xs := fun _ => zV) hbx (.inl ⟨rfl, rfl⟩) (kI i) (by omega) k3 i k1 (by omega))
 exact this
theorem AS.hput (H : AS W h A m f ts ia b V0 n xs E w) (hia : ia < ts.length) (hne : ia ≠ 2) (ht2 : ts[2]? = some t2) (hp2 : PlT t2 1 e2W) (hl : ts.length < 100000) (hn : n < 512) (hE : ∀ k, E k -> k < w.heap.size) (hsz : W.heap.size <= w.heap.size) (v : Vt) :
  Calls Tryz.prog 87 #[.pointer (some ⟨h, 0, none⟩), .int .i64 ((ia : Int) + 1), valV (7, 0, kI n), valV v] w fun e w' => e = .returned (.bool true) /\ AS W h A m f ts ia b V0 (n + 1) (fun j => if j = n then v else xs j) E w' := by
 obtain ⟨ev, xs0, h1, h2, h3, h4, h5⟩ := H.x
 have hat : (ts.set ia (TO.arr b 3 ev))[ia]? = some (TO.arr b 3 ev) := List.getElem?_set_self hia
 have hat2 : (ts.set ia (TO.arr b 3 ev))[2]? = some t2 := by rw [List.getElem?_set_ne hne]; exact ht2
 have hls : (ts.set ia (TO.arr b 3 ev)).length < 1000000 := by rw [List.length_set]; omega
 have hbx : Box w b 63 (objC 1 3 false (.pointer none) ev) := h1.mem_b (List.mem_of_getElem? hat) rfl
 have hA := Nat.le_of_lt h1.mm.alt
 obtain ⟨k1, k2, k3⟩ := kI_all n hn
 have hown : ∀ W', Below w.heap.size w W' -> Calls Tryz.prog 71 #[.pointer (some ⟨b, 0, none⟩), valV (7, 0, kI n)] W' fun e w' => e = .returned (.tuple #[valV (0, 0, ⟨#[]⟩), .int .i64 0, .bool false]) /\ Below W'.heap.size W' w' := fun W' hb => own_outF (hbx.below hb) (h2.on hb) (kI n) (by omega) k3 n k1 (Nat.le_refl _)
 have hP : ∀ W' w', Below w.heap.size w W' -> ElQ W' A b 3 ev n xs0 (n + 1) n v w' -> ElQ w A b 3 ev n xs0 (n + 1) n v w' := fun W' w' hb hq => hq.pre hb
 refine (put_new (P := fun W' w' => ElQ W' A b 3 ev n xs0 (n + 1) n v w') hbx ((ia : Int) + 1) ⟨fun W' hb => (h1.on hb).obj_at hat rfl⟩ (7, 0, kI n) v (0, 0, ⟨#[]⟩) ⟨fun W' hb => proto_none (h1.on hb) hat2 hp2 n hn hls⟩ true hP hown (fun W' hb => ?_)).mono ?_
 ·exact define_eln (P := fun W2 w' => ElQ W2 A b 3 ev n xs0 (n + 1) n v w') (hbx.below hb) (7, 0, kI n) v (0, 0, ⟨#[]⟩) n true (fun W2 w' hb2 hq => hq.pre hb2) (fun W2 hb2 => hown W2 (hb.trans (hb2.mono hb.size))) (fun W2 hb2 => isLen_noF ((hbx.below hb).below hb2) (kI n) k3) (fun W2 hb2 => elem_arrF ((hbx.below hb).below hb2) (kI n) (by omega) n k1) (fun W2 hb2 => setEl_grow ((hbx.below hb).below hb2) ((h2.on hb).on hb2) (Nat.le_trans hA (Nat.le_trans hb.size hb2.size)) n (by omega) (Nat.le_refl _) v)
 ·rintro e w' ⟨he, ev', xs', q1, q2, q3, q4, q5⟩
  refine ⟨he, AS.step h1 hia h2 h4 h5 hE hsz q1 q2 q4 q5 (fun j hj => ?_)⟩
  rw [q3 j hj]
  by_cases e9 : j = n
  ·rw [if_pos e9, if_pos e9]
  ·rw [if_neg e9, if_neg e9]
   show (if j < n then xs0 j else _) = _
   rw [if_pos (by omega)]
   exact h3 j (by omega)
theorem AS.deflen (H : AS W h A m f ts ia b V0 n xs E w) (hia : ia < ts.length) (hE : ∀ k, E k -> k < w.heap.size) (hsz : W.heap.size <= w.heap.size) (n' : Nat) (hn' : n' <= 10000) :
  Calls Tryz.prog 72 #[.pointer (some ⟨b, 0, none⟩), valV (7, 0, lenB), valV (3, (n' : Int), ⟨#[]⟩), .int .i64 1] w fun e w' => e = .returned (.bool true) /\ AS W h A m f ts ia b V0 n' (rz n xs) E w' := by
 obtain ⟨ev, xs0, h1, h2, h3, h4, h5⟩ := H.x
 have hat : (ts.set ia (TO.arr b 3 ev))[ia]? = some (TO.arr b 3 ev) := List.getElem?_set_self hia
 have hbx : Box w b 63 (objC 1 3 false (.pointer none) ev) := h1.mem_b (List.mem_of_getElem? hat) rfl
 have hA := Nat.le_of_lt h1.mm.alt
 refine (define_len (P := fun W2 w' => ElP W2 A b 3 ev n xs0 n' w') hbx (7, 0, lenB) (3, (n' : Int), ⟨#[]⟩) (3, (n : Int), ⟨#[]⟩) true (fun W2 w' hb2 hq => hq.pre hb2) (fun W2 hb2 => own_len (hbx.below hb2) (h2.on hb2)) (fun W2 hb2 => isLen_len (hbx.below hb2)) (fun W2 hb2 => setLen_ok (hbx.below hb2) (h2.on hb2) (Nat.le_trans hA hb2.size) n' hn')).mono ?_
 rintro e w' ⟨he, ev', xs', q1, q2, q3, q4, q5⟩
 refine ⟨he, AS.step h1 hia h2 h4 h5 hE hsz q1 q2 q3 q4 (fun j hj => ?_)⟩
 rw [q5 j hj]
 show (if j < n then xs0 j else _) = if j < n then xs j else _
 by_cases e9 : j < n
 ·rw [if_pos e9, if_pos e9]
  exact h3 j e9
 ·rw [if_neg e9, if_neg e9]
theorem AS.hputlen (H : AS W h A m f ts ia b V0 n xs E w) (hia : ia < ts.length) (hE : ∀ k, E k -> k < w.heap.size) (hsz : W.heap.size <= w.heap.size) (n' : Nat) (hn' : n' <= 10000) :
  Calls Tryz.prog 87 #[.pointer (some ⟨h, 0, none⟩), .int .i64 ((ia : Int) + 1), valV (7, 0, lenB), valV (3, (n' : Int), ⟨#[]⟩)] w fun e w' => e = .returned (.bool true) /\ AS W h A m f ts ia b V0 n' (rz n xs) E w' := by
 obtain ⟨ev, xs0, h1, h2, h3, h4, h5⟩ := H.x
 have hat : (ts.set ia (TO.arr b 3 ev))[ia]? = some (TO.arr b 3 ev) := List.getElem?_set_self hia
 have hbx : Box w b 63 (objC 1 3 false (.pointer none) ev) := h1.mem_b (List.mem_of_getElem? hat) rfl
 exact put_ok (P := fun _ w' => AS W h A m f ts ia b V0 n' (rz n xs) E w') ((ia : Int) + 1) ⟨fun W' hb => (h1.on hb).obj_at hat rfl⟩ (7, 0, lenB) (3, (n' : Int), ⟨#[]⟩) (3, (n : Int), ⟨#[]⟩) 1 plain_1 true (fun _ _ _ hq => hq) (fun W2 hb2 => own_len (hbx.below hb2) (h2.on hb2)) (fun W2 hb2 => (H.on hb2).deflen hia (fun k hk => Nat.lt_of_lt_of_le (hE k hk) hb2.size) (Nat.le_trans hsz hb2.size) n' hn')
end
end Go.Proofs.YtahkohfppakaiaaGreatDoor
namespace Go.Proofs.YtahkohfppakaiaaGreatDoor
open Go Go.RowKit
attribute [local go_sem] Oper.semAt_some
theorem nullish_obj (x : Vt) (hx : x.1 = 9) (w : World) : Calls Tryz.prog 82 #[valV x] w fun e w' => e = .returned (.bool false) /\ Below w.heap.size w w' := by
 go_enter Tryz.func82, Tryz.ntmps82
 go_wp2
 go_ret
 refine ⟨?_, (Below.refl _ _).alloc (Nat.le_refl _) _⟩
 first | rfl | simp [hx]
theorem convert_ok (m : Nat) (x : Vt) (W : World) : Calls Tryz.prog 84 #[.pointer (some ⟨m, 0, none⟩), valV x, .int .i64 0] W fun e w' => e = .returned (.tuple #[valV x, .int .i64 0]) /\ Below W.heap.size W w' := by
 obtain ⟨vb, hvb⟩ : ∃ vb, W.heap.size = vb := ⟨_, rfl⟩
 obtain ⟨rb, hrb⟩ : ∃ rb, vb + 1 = rb := ⟨_, rfl⟩
 obtain ⟨W0, hW0⟩ : ∃ W0, ((W.alloc (.cells #[.int .i64 x.1, .int .i64 x.2.1, .string x.2.2] 28)).alloc (.cells #[.int .i64 0, .int .i64 0, .string ⟨#[]⟩] 28)) = W0 := ⟨_, rfl⟩
 have bb : Below W.heap.size W W0 := by rw [<- hW0]; exact (((Below.refl _ _).alloc (Nat.le_refl _) _).alloc (by simp only [World.size_alloc]; omega) _)
 have xvb : Box W0 vb 28 #[.int .i64 x.1, .int .i64 x.2.1, .string x.2.2] := by have h9 := ((Box.new W 28 #[.int .i64 x.1, .int .i64 x.2.1, .string x.2.2]).more (.cells #[.int .i64 0, .int .i64 0, .string ⟨#[]⟩] 28)); rw [hW0, hvb] at h9; exact h9
 have xrb : Box W0 rb 28 #[.int .i64 0, .int .i64 0, .string ⟨#[]⟩] := by have h9 := Box.new (W.alloc (.cells #[.int .i64 x.1, .int .i64 x.2.1, .string x.2.2] 28)) 28 #[.int .i64 0, .int .i64 0, .string ⟨#[]⟩]; rw [hW0, show (W.alloc (.cells #[.int .i64 x.1, .int .i64 x.2.1, .string x.2.2] 28)).heap.size = rb from by simp only [World.size_alloc]; omega] at h9; exact h9
 have HW0 := Veil.mk (And.intro hW0 (And.intro hvb (hrb)))
 have HBB := Veil.mk (And.intro bb (And.intro xvb (xrb)))
 have HLO : Veil (W.heap.size <= vb /\ W.heap.size <= rb) := ⟨by omega⟩
 clear hW0 bb hvb xvb hrb xrb
 go_enter Tryz.func84, Tryz.ntmps84
 go_upto_region 1 with (fail)
 rw [HW0.out.1, HW0.out.2.1, HW0.out.2.2]
 have c0 : W0.cell? ⟨vb, 0, none⟩ = some (.int .i64 x.1) := HBB.out.2.1.at_ 0
 have c1 : W0.cell? ⟨vb, 1, none⟩ = some (.int .i64 x.2.1) := HBB.out.2.1.at_ 1
 have c2 : W0.cell? ⟨vb, 2, none⟩ = some (.string x.2.2) := HBB.out.2.1.at_ 2
 have z0 : W0.cell? ⟨rb, 0, none⟩ = some (.int .i64 0) := HBB.out.2.2.at_ 0
 have z1 : W0.cell? ⟨rb, 1, none⟩ = some (.int .i64 0) := HBB.out.2.2.at_ 1
 have z2 : W0.cell? ⟨rb, 2, none⟩ = some (.string ⟨#[]⟩) := HBB.out.2.2.at_ 2
 have q0 := HBB.out.2.2.free 0
 have q1 := HBB.out.2.2.free 1
 have q2 := HBB.out.2.2.free 2
 go_wp2
 have hr3 := ((HBB.out.2.2.put 0 (.int .i64 x.1)).put 1 (.int .i64 x.2.1)).put 2 (.string x.2.2)
 have y0 := hr3.at_ 0
 have y1 := hr3.at_ 1
 have y2 := hr3.at_ 2
 have hrb : W.heap.size <= rb := HLO.out.2
 exact bodyPost_ret (v := (.tuple #[valV x, .int .i64 0])) (by simp [results, Tryz.results84, go_sem, y0, y1, y2]) rfl ⟨rfl, ((HBB.out.1.setCell (p := ⟨rb, 0, none⟩) hrb _).setCell (p := ⟨rb, 1, none⟩) hrb _).setCell (p := ⟨rb, 2, none⟩) hrb _⟩
theorem has_no (W : World) (o n : Nat) (ev : Value) (a : Option Addr) (c i : Nat) (hev : ev = .slice a n c) (hi : n <= i) (hi2 : i < 1000000) (h0 : W.cell? ⟨o, 0, none⟩ = some (.int .i64 1)) (h4 : W.cell? ⟨o, 4, none⟩ = some ev) (ho : o < W.heap.size) : Calls Tryz.prog 83 #[.pointer (some ⟨o, 0, none⟩), valV (3, (i : Int), ⟨#[]⟩)] W fun e w' => e = .returned (.bool false) /\ Below W.heap.size W w' := by
 subst hev
 obtain ⟨kb, hkb⟩ : ∃ kb, W.heap.size = kb := ⟨_, rfl⟩
 obtain ⟨W0, hW0⟩ : ∃ W0, (W.alloc (.cells #[.int .i64 3, .int .i64 (i : Int), .string ⟨#[]⟩] 28)) = W0 := ⟨_, rfl⟩
 have bb : Below W.heap.size W W0 := by rw [<- hW0]; exact ((Below.refl _ _).alloc (Nat.le_refl _) _)
 have xkb : Box W0 kb 28 #[.int .i64 3, .int .i64 (i : Int), .string ⟨#[]⟩] := by have h9 := Box.new W 28 #[.int .i64 3, .int .i64 (i : Int), .string ⟨#[]⟩]; rw [hW0, hkb] at h9; exact h9
 have HW0 := Veil.mk (And.intro hW0 (hkb))
 have HBB := Veil.mk (And.intro bb (xkb))
 have HLO : Veil (W.heap.size <= kb) := ⟨by omega⟩
 clear hW0 bb hkb xkb
 have d0 : W0.cell? ⟨o, 0, none⟩ = some (.int .i64 1) := by rw [HBB.out.1.cell (p := ⟨o, 0, none⟩) ho]; exact h0
 have d4 : W0.cell? ⟨o, 4, none⟩ = some (.slice a n c) := by rw [HBB.out.1.cell (p := ⟨o, 4, none⟩) ho]; exact h4
 have c0 : W0.cell? ⟨kb, 0, none⟩ = some (.int .i64 3) := HBB.out.2.at_ 0
 have c1 : W0.cell? ⟨kb, 1, none⟩ = some (.int .i64 (i : Int)) := HBB.out.2.at_ 1
 have hlt : ¬ ((i : Int) < (n : Int)) := by omega
 have hi0 : (0 : Int) <= (i : Int) := by omega
 clear h0 h4
 go_enter Tryz.func83, Tryz.ntmps83
 go_upto_region 1 with (fail)
 rw [HW0.out.1, HW0.out.2]
 go_quiet (fail)
 go_wp2
 go_ret
 exact ⟨rfl, HBB.out.1.trans ⟨rfl, rfl, rfl, Nat.le_refl _, fun _ _ => rfl⟩⟩
theorem has_str (W : World) (o : Nat) (s : ByteArray) (h0 : W.cell? ⟨o, 0, none⟩ = some (.int .i64 1)) (ho : o < W.heap.size) : Calls Tryz.prog 83 #[.pointer (some ⟨o, 0, none⟩), valV (7, 0, s)] W fun e w' => e = .returned (.bool false) /\ Below W.heap.size W w' := by
 obtain ⟨kb, hkb⟩ : ∃ kb, W.heap.size = kb := ⟨_, rfl⟩
 obtain ⟨W0, hW0⟩ : ∃ W0, (W.alloc (.cells #[.int .i64 7, .int .i64 0, .string s] 28)) = W0 := ⟨_, rfl⟩
 have bb : Below W.heap.size W W0 := by rw [<- hW0]; exact ((Below.refl _ _).alloc (Nat.le_refl _) _)
 have xkb : Box W0 kb 28 #[.int .i64 7, .int .i64 0, .string s] := by have h9 := Box.new W 28 #[.int .i64 7, .int .i64 0, .string s]; rw [hW0, hkb] at h9; exact h9
 have HW0 := Veil.mk (And.intro hW0 (hkb))
 have HBB := Veil.mk (And.intro bb (xkb))
 have HLO : Veil (W.heap.size <= kb) := ⟨by omega⟩
 clear hW0 bb hkb xkb
 have d0 : W0.cell? ⟨o, 0, none⟩ = some (.int .i64 1) := by rw [HBB.out.1.cell (p := ⟨o, 0, none⟩) ho]; exact h0
 have c0 : W0.cell? ⟨kb, 0, none⟩ = some (.int .i64 7) := HBB.out.2.at_ 0
 clear h0
 go_enter Tryz.func83, Tryz.ntmps83
 go_upto_region 1 with (fail)
 rw [HW0.out.1, HW0.out.2]
 go_quiet (fail)
 go_wp2
 go_ret
 exact ⟨rfl, HBB.out.1.trans ⟨rfl, rfl, rfl, Nat.le_refl _, fun _ _ => rfl⟩⟩
theorem foreign_idx (W : World) (o : Nat) (s : ByteArray) (i : Nat) (hs : s.size <= 16777216) (hne : (s.toList == []) = false) (hi : Go.Proofs.YtahkohfppakaiaaGreatDoor.W.idxU (Go.Proofs.YtahkohfppakaiaaGreatDoor.W.unitsS s) = (i : Int)) (h0 : W.cell? ⟨o, 0, none⟩ = some (.int .i64 1)) (ho : o < W.heap.size) : Calls Tryz.prog 86 #[.pointer (some ⟨o, 0, none⟩), valV (7, 0, s)] W fun e w' => e = .returned (.bool false) /\ Below W.heap.size W w' := by
 obtain ⟨kb, hkb⟩ : ∃ kb, W.heap.size = kb := ⟨_, rfl⟩
 obtain ⟨W0, hW0⟩ : ∃ W0, (W.alloc (.cells #[.int .i64 7, .int .i64 0, .string s] 28)) = W0 := ⟨_, rfl⟩
 have bb : Below W.heap.size W W0 := by rw [<- hW0]; exact ((Below.refl _ _).alloc (Nat.le_refl _) _)
 have xkb : Box W0 kb 28 #[.int .i64 7, .int .i64 0, .string s] := by have h9 := Box.new W 28 #[.int .i64 7, .int .i64 0, .string s]; rw [hW0, hkb] at h9; exact h9
 have HW0 := Veil.mk (And.intro hW0 (hkb))
 have HBB := Veil.mk (And.intro bb (xkb))
 have HLO : Veil (W.heap.size <= kb) := ⟨by omega⟩
 clear hW0 bb hkb xkb
 have d0 : W0.cell? ⟨o, 0, none⟩ = some (.int .i64 1) := by rw [HBB.out.1.cell (p := ⟨o, 0, none⟩) ho]; exact h0
 have c0 : W0.cell? ⟨kb, 0, none⟩ = some (.int .i64 7) := HBB.out.2.at_ 0
 have c2 : W0.cell? ⟨kb, 2, none⟩ = some (.string s) := HBB.out.2.at_ 2
 have HIX : Veil (∀ w', Calls Tryz.prog 118 #[.string s] w' fun e w9 => e = .returned (.int .i64 (i : Int)) /\ Below w'.heap.size w' w9) := ⟨fun w' => Go.Proofs.YtahkohfppakaiaaGreatDoor.W.index_at s (i : Int) hs (by show _ = _; exact hi) w'⟩
 have hi0 : (0 : Int) <= (i : Int) := by omega
 clear h0 hi hs
 go_enter Tryz.func86, Tryz.ntmps86
 go_upto_region 1 with (fail)
 rw [HW0.out.1, HW0.out.2]
 go_wp2_with (go_at_call 118; ((with_reducible refine (HIX.out _).mono ?_); rintro e w1 ⟨rfl, hb1⟩))
 go_ret
 exact ⟨rfl, blw2 HBB.out.1 hb1⟩
section
variable {W w w' : World} {h A m ia b n : Nat} {f f1 f2 : MF} {ts : List TO} {V0 V1 E : Nat -> Prop} {xs : Nat -> Vt}
theorem AS.rebase (H : AS W h A m f ts ia b V0 n xs E w) : ∃ V1, AS w h A m f ts ia b V1 n xs E w /\ ∀ k, V1 k -> (V0 k \/ W.heap.size <= k) /\ ¬ E k /\ k < w.heap.size := by
 obtain ⟨ev, xs0, h1, h2, h3, h4, h5⟩ := H.x
 exact ⟨fun k => ev.ownBlock = some k, ⟨ev, xs0, h1, h2, h3, ⟨Below.refl _ _, fun _ _ _ _ _ => rfl⟩, fun k hk => ⟨.inl hk, (h5 k hk).2⟩⟩, fun k hk => ⟨(h5 k hk).1, (h5 k hk).2, (h2.own_lt k hk).2.1⟩⟩
theorem AS.trans {n1 n2 : Nat} {xs1 xs2 : Nat -> Vt} {E1 E2 : Nat -> Prop} (H1 : AS W h A m f1 ts ia b V0 n1 xs1 E1 w) (H2 : AS w h A m f2 ts ia b V1 n2 xs2 E2 w') (hV : ∀ k, V1 k -> V0 k \/ W.heap.size <= k) (hs : W.heap.size <= w.heap.size) : AS W h A m f2 ts ia b V0 n2 xs2 E2 w' := by
 obtain ⟨_, _, _, _, _, g4, _⟩ := H1.x
 obtain ⟨ev, xs0, h1, h2, h3, h4, h5⟩ := H2.x
 refine ⟨ev, xs0, h1, h2, h3, g4.trans h4 hV, fun k hk => ⟨?_, (h5 k hk).2⟩⟩
 rcases (h5 k hk).1 with h9 | h9
 ·exact hV k h9
 ·exact .inr (Nat.le_trans hs h9)
theorem AS.mput (H : AS W h A m f ts ia b V0 n xs (fun _ => False) W) (hia : ia < ts.length) (kr key x : Vt) (n' : Nat) (ys : Nat -> Vt)
  (HHE : Veil (∀ W', Below W.heap.size W W' -> Calls Tryz.prog 83 #[.pointer (some ⟨b, 0, none⟩), valV kr] W' fun e w' => e = .returned (.bool false) /\ Below W'.heap.size W' w'))
  (HPR : Veil (∀ W', Below W.heap.size W W' -> Calls Tryz.prog 85 #[valV kr] W' fun e w' => e = .returned (.tuple #[valV key, .int .i64 0]) /\ Below W'.heap.size W' w'))
  (HFO : Veil (∀ W', Below W.heap.size W W' -> Calls Tryz.prog 86 #[.pointer (some ⟨b, 0, none⟩), valV key] W' fun e w' => e = .returned (.bool false) /\ Below W'.heap.size W' w'))
  (HPU : Veil (∀ W' E V1, AS W' h A m f ts ia b V1 n xs E W' -> (∀ k, E k -> k < W'.heap.size) -> Calls Tryz.prog 87 #[.pointer (some ⟨h, 0, none⟩), .int .i64 ((ia : Int) + 1), valV key, valV x] W' fun e w' => e = .returned (.bool true) /\ AS W' h A m f ts ia b V1 n' ys E w')) :
  Calls Tryz.prog 43 #[.pointer (some ⟨m, 0, none⟩), valV (9, (ia : Int) + 1, ⟨#[]⟩), valV kr, valV x] W fun e w' => e = .returned (.tuple #[valV x, .int .i64 0]) /\ AS W h A m f ts ia b V0 n' ys (fun _ => False) w' := by
 obtain ⟨fv, hfv⟩ : ∃ fv : Vt, ((9, (ia : Int) + 1, ⟨#[]⟩) : Vt) = fv := ⟨_, rfl⟩
 have hmb : ∃ ev, MP W h A m f (ts.set ia (TO.arr b 3 ev)) := by obtain ⟨ev, _, h1, _⟩ := H.x; exact ⟨ev, h1⟩
 obtain ⟨ev0, hm0⟩ := hmb
 have hat : (ts.set ia (TO.arr b 3 ev0))[ia]? = some (TO.arr b 3 ev0) := List.getElem?_set_self hia
 obtain ⟨vb, hvb⟩ : ∃ vb, W.heap.size = vb := ⟨_, rfl⟩
 obtain ⟨kb, hkb⟩ : ∃ kb, vb + 1 = kb := ⟨_, rfl⟩
 obtain ⟨xb, hxb⟩ : ∃ xb, kb + 1 = xb := ⟨_, rfl⟩
 obtain ⟨rb, hrb⟩ : ∃ rb, xb + 1 = rb := ⟨_, rfl⟩
 obtain ⟨W0, hW0⟩ : ∃ W0, ((((W.alloc (.cells #[.int .i64 fv.1, .int .i64 fv.2.1, .string fv.2.2] 28)).alloc (.cells #[.int .i64 kr.1, .int .i64 kr.2.1, .string kr.2.2] 28)).alloc (.cells #[.int .i64 x.1, .int .i64 x.2.1, .string x.2.2] 28)).alloc (.cells #[.int .i64 0, .int .i64 0, .string ⟨#[]⟩] 28)) = W0 := ⟨_, rfl⟩
 have bb : Below W.heap.size W W0 := by rw [<- hW0]; exact (((((Below.refl _ _).alloc (Nat.le_refl _) _).alloc (by simp only [World.size_alloc]; omega) _).alloc (by simp only [World.size_alloc]; omega) _).alloc (by simp only [World.size_alloc]; omega) _)
 have xvb : Box W0 vb 28 #[.int .i64 fv.1, .int .i64 fv.2.1, .string fv.2.2] := by have h9 := ((((((Box.new W 28 #[.int .i64 fv.1, .int .i64 fv.2.1, .string fv.2.2]).more (.cells #[.int .i64 kr.1, .int .i64 kr.2.1, .string kr.2.2] 28))).more (.cells #[.int .i64 x.1, .int .i64 x.2.1, .string x.2.2] 28))).more (.cells #[.int .i64 0, .int .i64 0, .string ⟨#[]⟩] 28)); rw [hW0, hvb] at h9; exact h9
 have xkb : Box W0 kb 28 #[.int .i64 kr.1, .int .i64 kr.2.1, .string kr.2.2] := by have h9 := ((((Box.new (W.alloc (.cells #[.int .i64 fv.1, .int .i64 fv.2.1, .string fv.2.2] 28)) 28 #[.int .i64 kr.1, .int .i64 kr.2.1, .string kr.2.2]).more (.cells #[.int .i64 x.1, .int .i64 x.2.1, .string x.2.2] 28))).more (.cells #[.int .i64 0, .int .i64 0, .string ⟨#[]⟩] 28)); rw [hW0, show (W.alloc (.cells #[.int .i64 fv.1, .int .i64 fv.2.1, .string fv.2.2] 28)).heap.size = kb from by simp only [World.size_alloc]; omega] at h9; exact h9
 have xxb : Box W0 xb 28 #[.int .i64 x.1, .int .i64 x.2.1, .string x.2.2] := by have h9 := ((Box.new ((W.alloc (.cells #[.int .i64 fv.1, .int .i64 fv.2.1, .string fv.2.2] 28)).alloc (.cells #[.int .i64 kr.1, .int .i64 kr.2.1, .string kr.2.2] 28)) 28 #[.int .i64 x.1, .int .i64 x.2.1, .string x.2.2]).more (.cells #[.int .i64 0, .int .i64 0, .string ⟨#[]⟩] 28)); rw [hW0, show ((W.alloc (.cells #[.int .i64 fv.1, .int .i64 fv.2.1, .string fv.2.2] 28)).alloc (.cells #[.int .i64 kr.1, .int .i64 kr.2.1, .string kr.2.2] 28)).heap.size = xb from by simp only [World.size_alloc]; omega] at h9; exact h9
 have xrb : Box W0 rb 28 #[.int .i64 0, .int .i64 0, .string ⟨#[]⟩] := by have h9 := Box.new (((W.alloc (.cells #[.int .i64 fv.1, .int .i64 fv.2.1, .string fv.2.2] 28)).alloc (.cells #[.int .i64 kr.1, .int .i64 kr.2.1, .string kr.2.2] 28)).alloc (.cells #[.int .i64 x.1, .int .i64 x.2.1, .string x.2.2] 28)) 28 #[.int .i64 0, .int .i64 0, .string ⟨#[]⟩]; rw [hW0, show (((W.alloc (.cells #[.int .i64 fv.1, .int .i64 fv.2.1, .string fv.2.2] 28)).alloc (.cells #[.int .i64 kr.1, .int .i64 kr.2.1, .string kr.2.2] 28)).alloc (.cells #[.int .i64 x.1, .int .i64 x.2.1, .string x.2.2] 28)).heap.size = rb from by simp only [World.size_alloc]; omega] at h9; exact h9
 have HW0 := Veil.mk (And.intro hW0 (And.intro hvb (And.intro hkb (And.intro hxb (hrb)))))
 have HBB := Veil.mk (And.intro bb (And.intro xvb (And.intro xkb (And.intro xxb (xrb)))))
 have HLO : Veil (W.heap.size <= vb /\ W.heap.size <= kb /\ W.heap.size <= xb /\ W.heap.size <= rb) := ⟨by omega⟩
 clear hW0 bb hvb xvb hkb xkb hxb xxb hrb xrb
 have HCM : Veil (∀ w9, Below W.heap.size W w9 -> w9.cell? ⟨m, 0, none⟩ = some (.pointer (some ⟨h, 0, none⟩)) /\ w9.cell? ⟨b, 2, none⟩ = some (.bool false)) := ⟨fun w9 hb => ⟨(hm0.on hb).mm.mb.at_ 0, ((hm0.on hb).mem_b (List.mem_of_getElem? hat) rfl).at_ 2⟩⟩
 have HOF : Veil (∀ w9, Below W.heap.size W w9 -> Calls Tryz.prog 14 #[.pointer (some ⟨h, 0, none⟩), valV fv] w9 fun e w' => e = .returned (.pointer (some ⟨b, 0, none⟩)) /\ Below w9.heap.size w9 w') := ⟨fun w9 hb => by rw [<- hfv]; exact (hm0.on hb).of_at hat rfl _⟩
 have HRF : Veil (∀ w9, Calls Tryz.prog 47 #[valV fv] w9 fun e w' => e = .returned (.int .i64 ((ia : Int) + 1)) /\ Below w9.heap.size w9 w') := ⟨fun w9 => by have := ref_9 fv (by rw [<- hfv]) w9; rw [show fv.2.1 = (ia : Int) + 1 from by rw [<- hfv]] at this; exact this⟩
 have HN9 := Veil.mk (nullish_obj fv (by rw [<- hfv]) W0)
 have HAS := Veil.mk (H.excl (E' := fun k => W.heap.size <= k) (fun k hk => .inr hk))
 have HA : Veil (A <= W.heap.size) := ⟨Nat.le_of_lt hm0.mm.alt⟩
 have c0 : W0.cell? ⟨vb, 0, none⟩ = some (.int .i64 fv.1) := HBB.out.2.1.at_ 0
 have c1 : W0.cell? ⟨vb, 1, none⟩ = some (.int .i64 fv.2.1) := HBB.out.2.1.at_ 1
 have c2 : W0.cell? ⟨vb, 2, none⟩ = some (.string fv.2.2) := HBB.out.2.1.at_ 2
 rw [hfv]
 clear hfv hm0 hat H hia
 go_enter Tryz.func43, Tryz.ntmps43
 go_upto_region 1 with (fail)
 rw [HW0.out.1, HW0.out.2.1, HW0.out.2.2.1, HW0.out.2.2.2.1, HW0.out.2.2.2.2]
 go_upto_region 5 with (go_at_call 82; ((with_reducible refine HN9.out.mono ?_); rintro e w1 ⟨rfl, hb1⟩; have HB1 := Veil.mk hb1; clear hb1))
 obtain ⟨WD, hWD⟩ : ∃ WD, w1.drew = WD := ⟨_, rfl⟩
 have hdr : Below W0.heap.size W0 WD := by rw [<- hWD]; exact HB1.out.drew
 have HBF : Veil (Below W.heap.size W WD) := ⟨HBB.out.1.trans (hdr.mono HBB.out.1.size)⟩
 have HX1 := Veil.mk (And.intro (HBB.out.2.1.below hdr) (And.intro (HBB.out.2.2.1.below hdr) (And.intro (HBB.out.2.2.2.1.below hdr) (HBB.out.2.2.2.2.below hdr))))
 have HC0 : Veil (WD.cell? ⟨m, 0, none⟩ = some (.pointer (some ⟨h, 0, none⟩))) := ⟨(HCM.out WD HBF.out).1⟩
 have HWD := Veil.mk hWD
 clear hWD hdr c0 c1 c2 HB1 HW0 HN9
 have hDZ : ∀ z : BW w1, Below WD.heap.size WD z.w := fun z => by rw [<- HWD.out]; exact ⟨z.h.1, z.h.2, z.h.3, z.h.4, z.h.5⟩
 have c0_3 := fun z : BW w1 => cellAt (hDZ z) (HC0.out)
 have c0_4 : ∀ z : BW w1, z.w.cell? ⟨vb, 0, none⟩ = some (.int .i64 fv.1) := fun z => cellAt (hDZ z) (HX1.out.1.at_ 0)
 have c1_4 : ∀ z : BW w1, z.w.cell? ⟨vb, 1, none⟩ = some (.int .i64 fv.2.1) := fun z => cellAt (hDZ z) (HX1.out.1.at_ 1)
 have c2_4 : ∀ z : BW w1, z.w.cell? ⟨vb, 2, none⟩ = some (.string fv.2.2) := fun z => cellAt (hDZ z) (HX1.out.1.at_ 2)
 have hNE := BW.ne w1
 refine wp_region_below (by kernel_rfl) (by kernel_rfl) ?_
 repeat (go_big_quiet_step ((go_at_call 14; exact BW.on _ (HOF.out _ (blw2 (HBF.out) (hDZ _))))))
 refine wpQuiet_nil ?_
 rintro _ ⟨z, rfl⟩
 have HQ := Veil.mk (hDZ z)
 obtain ⟨wE, hE2⟩ : ∃ wE, z.w = wE := ⟨_, rfl⟩
 rw [hE2] at HQ ⊢
 clear c0_3 c0_4 c1_4 c2_4 hDZ hE2 z hNE
 have HB5 := Veil.mk (HBF.out.trans (HQ.out.mono HBF.out.size))
 have HX5 := Veil.mk (And.intro (HX1.out.1.below HQ.out) (And.intro (HX1.out.2.1.below HQ.out) (And.intro (HX1.out.2.2.1.below HQ.out) (HX1.out.2.2.2.below HQ.out))))
 have d2 : wE.cell? ⟨b, 2, none⟩ = some (.bool false) := (HCM.out wE HB5.out).2
 have k0 : wE.cell? ⟨kb, 0, none⟩ = some (.int .i64 kr.1) := HX5.out.2.1.at_ 0
 have k1 : wE.cell? ⟨kb, 1, none⟩ = some (.int .i64 kr.2.1) := HX5.out.2.1.at_ 1
 have k2 : wE.cell? ⟨kb, 2, none⟩ = some (.string kr.2.2) := HX5.out.2.1.at_ 2
 have HH5 := Veil.mk (HHE.out wE HB5.out)
 clear HC0 HX1 HQ HWD HOF HBF
 go_upto_region 9 with (go_at_call 83; ((with_reducible refine HH5.out.mono ?_); rintro e w6 ⟨rfl, hb6⟩; have HB6 := Veil.mk (And.intro (HB5.out.trans (hb6.mono HB5.out.size)) hb6); clear hb6))
 have HX6 := Veil.mk (And.intro (HX5.out.1.below HB6.out.2) (And.intro (HX5.out.2.1.below HB6.out.2) (And.intro (HX5.out.2.2.1.below HB6.out.2) (HX5.out.2.2.2.below HB6.out.2))))
 clear d2 k0 k1 k2 HH5 HX5
 have k0 : w6.cell? ⟨kb, 0, none⟩ = some (.int .i64 kr.1) := HX6.out.2.1.at_ 0
 have k1 : w6.cell? ⟨kb, 1, none⟩ = some (.int .i64 kr.2.1) := HX6.out.2.1.at_ 1
 have k2 : w6.cell? ⟨kb, 2, none⟩ = some (.string kr.2.2) := HX6.out.2.1.at_ 2
 have HP6 := Veil.mk (HPR.out w6 HB6.out.1)
 go_upto_region 12 with (first | (go_at_call 85; ((with_reducible refine HP6.out.mono ?_); rintro e w7 ⟨rfl, hb7⟩; have HB7 := Veil.mk hb7; clear hb7)) | (go_at_call 84; ((with_reducible refine (convert_ok m key _).mono ?_); rintro e w8 ⟨rfl, hb8⟩; have HB8 := Veil.mk (blw2 HB7.out hb8); clear hb8)))
 obtain ⟨nb, hnb⟩ : ∃ nb, w8.heap.size = nb := ⟨_, rfl⟩
 have bb : Below w8.heap.size w8 (w8.alloc (.cells #[.int .i64 key.1, .int .i64 key.2.1, .string key.2.2] 28)) := (Below.refl _ _).alloc (Nat.le_refl _) _
 have bx := Box.new w8 28 #[.int .i64 key.1, .int .i64 key.2.1, .string key.2.2]
 obtain ⟨w9, hw9⟩ : ∃ w9, w8.alloc (.cells #[.int .i64 key.1, .int .i64 key.2.1, .string key.2.2] 28) = w9 := ⟨_, rfl⟩
 rw [hw9] at bb bx
 rw [hnb] at bx
 rw [hw9, hnb]
 have hb69 := blw2 HB8.out bb
 have HB9 := Veil.mk (HB6.out.1.trans (hb69.mono HB6.out.1.size))
 have HX9 := Veil.mk (And.intro (HX6.out.1.below hb69) (And.intro (HX6.out.2.1.below hb69) (And.intro (HX6.out.2.2.1.below hb69) (And.intro (HX6.out.2.2.2.below hb69) bx))))
 have HNBL : Veil (W.heap.size <= nb) := ⟨by have := HB6.out.1.size; have := HB8.out.size; omega⟩
 have d2 : w9.cell? ⟨b, 2, none⟩ = some (.bool false) := (HCM.out w9 HB9.out).2
 have n0 : w9.cell? ⟨nb, 0, none⟩ = some (.int .i64 key.1) := HX9.out.2.2.2.2.at_ 0
 have n1 : w9.cell? ⟨nb, 1, none⟩ = some (.int .i64 key.2.1) := HX9.out.2.2.2.2.at_ 1
 have n2 : w9.cell? ⟨nb, 2, none⟩ = some (.string key.2.2) := HX9.out.2.2.2.2.at_ 2
 have HF9 := Veil.mk (HFO.out w9 HB9.out)
 clear k0 k1 k2 hb69 bb bx hw9 hnb HX6 HP6 HB7 HB8
 go_upto_region 14 with (go_at_call 86; ((with_reducible refine HF9.out.mono ?_); rintro e w10 ⟨rfl, hb10⟩; have HB10 := Veil.mk hb10; clear hb10))
 obtain ⟨WX, hWX⟩ : ∃ WX, w10.drew = WX := ⟨_, rfl⟩
 have hdr : Below w9.heap.size w9 WX := by rw [<- hWX]; exact HB10.out.drew
 have HBX := Veil.mk (HB9.out.trans (hdr.mono HB9.out.size))
 have HY := Veil.mk (And.intro (HX9.out.1.below hdr) (And.intro (HX9.out.2.1.below hdr) (And.intro (HX9.out.2.2.1.below hdr) (And.intro (HX9.out.2.2.2.1.below hdr) (HX9.out.2.2.2.2.below hdr)))))
 obtain ⟨P1, hP1⟩ : ∃ P1 : World -> Prop, P1 = fun w' => AS W h A m f ts ia b V0 n' ys (fun k => k = rb) w' /\ Box w' rb 28 #[.int .i64 0, .int .i64 0, .string ⟨#[]⟩] /\ Box w' xb 28 #[.int .i64 x.1, .int .i64 x.2.1, .string x.2.2] := ⟨_, rfl⟩
 have HPX : Veil (∀ w', Below WX.heap.size WX w' -> Calls Tryz.prog 87 #[.pointer (some ⟨h, 0, none⟩), .int .i64 ((ia : Int) + 1), valV key, valV x] w' fun e w9 => e = .returned (.bool true) /\ P1 w9) := ⟨fun w' hb => by
  have hbw := HBX.out.trans (hb.mono HBX.out.size)
  have hs := (HAS.out.on hbw).excl (E' := fun k => W.heap.size <= k /\ k < w'.heap.size) (fun k hk => .inl hk.1)
  obtain ⟨V1, hr, hv1⟩ := hs.rebase
  refine (HPU.out w' _ V1 hr (fun k hk => hk.2)).mono ?_
  rintro e w9 ⟨he, hq⟩
  obtain ⟨ev, xs0, q1, q2, q3, q4, q5⟩ := hq.x
  have brb := HY.out.2.2.2.1.below hb
  have bxb := HY.out.2.2.1.below hb
  rw [hP1]
  refine ⟨he, ?_, q4.box brb (by decide) (fun h9 => (hv1 rb h9).2.1 ⟨HLO.out.2.2.2, brb.lt⟩), q4.box bxb (by decide) (fun h9 => (hv1 xb h9).2.1 ⟨HLO.out.2.2.1, bxb.lt⟩)⟩
  have hz := hs.trans hq (fun k hk => (hv1 k hk).1) hbw.size
  exact hz.excl (fun k hk => .inl (by rw [hk]; exact ⟨HLO.out.2.2.2, brb.lt⟩))⟩
 have HP1 := Veil.mk hP1
 have HWX := Veil.mk hWX
 clear hWX hdr hP1 d2 n0 n1 n2 HX9 HF9 HB10 HB9 HAS
 refine wp_region_chain [qp m 0, qp m 0, qp m 0, qp h 0, qv fv, qi ((ia : Int) + 1), qv key, qv x, qq (.bool true), qq (.bool false), qq (.bool false)] (LPh [5, 8] (SqSt WX [Below WX.heap.size WX, P1])) [some 85, some 86, some 87, some 88, some 89, some 90, some 91, some 92, some 93, some 94, some 84] (curV' _ [some 85, some 86, some 87, some 88, some 89, some 90, some 91, some 92, some 93, some 94, some 84]) (by kernel_rfl) rfl rfl (puts_cur _ _) (LPh.start (show _ = WX from HWX.out)) ?_ (by kernel_rfl) ?_
 ·refine SY (fun _ S => ?_) ?_
  ·obtain ⟨⟩ := n11 S.hu
   rw [pin S.ha]
   go_simp
   exact S.kL 0
  refine SY (fun _ S => ?_) ?_
  ·obtain ⟨⟩ := n11 S.hu
   obtain rfl := S.q 0
   rw [pin S.ha]
   go_simp
   exact S.kL 1
  refine SY (fun _ S => ?_) ?_
  ·obtain ⟨⟩ := n11 S.hu
   obtain rfl := S.q 1
   rw [pin S.ha]
   go_simp
   exact S.kL 2
  refine SY (fun w' S => ?_) ?_
  ·obtain ⟨⟩ := n11 S.hu
   obtain rfl := S.q 2
   have gb := (S.hI.bwd [3] 8 3 (by kernel_rfl) rfl S.h0)
   obtain ⟨sg, hlo, hhi, hst⟩ := S.hI.ph.btw 0 1 (.inl rfl) (.inr ⟨8, rfl, gb⟩)
   have hb9 := SqSt.bel hst (by omega)
   clear hst
   have c0 := (HCM.out w' (HBX.out.trans (hb9.mono HBX.out.size))).1
   clear gb
   rw [pin S.ha]
   go_simp
   exact S.kL 3
  refine SY (fun w' S => ?_) ?_
  ·obtain ⟨⟩ := n11 S.hu
   have gb := (S.hI.bwd [4] 5 4 (by kernel_rfl) rfl S.h0)
   have hst := S.hI.ph.btw1 0 (.inl rfl) (.inr ⟨5, rfl, gb⟩)
   have hst' : WX = w' := (show w' = WX from hst).symm
   clear hst
   subst hst'
   have c0 : WX.cell? ⟨vb, 0, none⟩ = some (.int .i64 fv.1) := HY.out.1.at_ 0
   have c1 : WX.cell? ⟨vb, 1, none⟩ = some (.int .i64 fv.2.1) := HY.out.1.at_ 1
   have c2 : WX.cell? ⟨vb, 2, none⟩ = some (.string fv.2.2) := HY.out.1.at_ 2
   clear gb
   rw [pin S.ha]
   go_simp
   exact S.kL 4
  refine SY (fun w' S => ?_) ?_
  ·obtain ⟨⟩ := n11 S.hu
   obtain rfl := S.q 4
   have gb := S.h0
   have hst := S.hI.ph.btw1 0 (.inl rfl) (.inr ⟨5, rfl, gb⟩)
   have hst' : WX = w' := (show w' = WX from hst).symm
   clear hst
   subst hst'
   clear gb
   rw [pin S.ha]
   go_simp
   go_at_call 47
   refine (HRF.out WX).mono ?_
   rintro e9 w9 ⟨rfl, hm9⟩
   go_simp
   exact S.kS 5 _ (S.hI.ph.next 0 5 _ rfl S.h0 (.inl rfl) (by decide) (hm9))
  refine SY (fun w' S => ?_) ?_
  ·obtain ⟨⟩ := n11 S.hu
   have gb := (S.hI.bwd [6] 8 6 (by kernel_rfl) rfl S.h0)
   obtain ⟨sg, hlo, hhi, hst⟩ := S.hI.ph.btw 0 1 (.inl rfl) (.inr ⟨8, rfl, gb⟩)
   have hb9 := SqSt.bel hst (by omega)
   clear hst
   have c0 : w'.cell? ⟨nb, 0, none⟩ = some (.int .i64 key.1) := (HY.out.2.2.2.2.below hb9).at_ 0
   have c1 : w'.cell? ⟨nb, 1, none⟩ = some (.int .i64 key.2.1) := (HY.out.2.2.2.2.below hb9).at_ 1
   have c2 : w'.cell? ⟨nb, 2, none⟩ = some (.string key.2.2) := (HY.out.2.2.2.2.below hb9).at_ 2
   clear gb
   rw [pin S.ha]
   go_simp
   exact S.kL 6
  refine SY (fun w' S => ?_) ?_
  ·obtain ⟨⟩ := n11 S.hu
   have gb := (S.hI.bwd [7] 8 7 (by kernel_rfl) rfl S.h0)
   obtain ⟨sg, hlo, hhi, hst⟩ := S.hI.ph.btw 0 1 (.inl rfl) (.inr ⟨8, rfl, gb⟩)
   have hb9 := SqSt.bel hst (by omega)
   clear hst
   have c0 : w'.cell? ⟨xb, 0, none⟩ = some (.int .i64 x.1) := (HY.out.2.2.1.below hb9).at_ 0
   have c1 : w'.cell? ⟨xb, 1, none⟩ = some (.int .i64 x.2.1) := (HY.out.2.2.1.below hb9).at_ 1
   have c2 : w'.cell? ⟨xb, 2, none⟩ = some (.string x.2.2) := (HY.out.2.2.1.below hb9).at_ 2
   clear gb
   rw [pin S.ha]
   go_simp
   exact S.kL 7
  refine SY (fun w' S => ?_) ?_
  ·obtain ⟨⟩ := n11 S.hu
   obtain rfl := S.q 3
   obtain rfl := S.q 5
   obtain rfl := S.q 6
   obtain rfl := S.q 7
   have ga := (gen_after 5 (by kernel_rfl) S.hp)
   have gb := S.h0
   have hst := S.hI.ph.btw1 1 (.inr ⟨5, rfl, ga⟩) (.inr ⟨8, rfl, gb⟩)
   have HST := Veil.mk (show Below WX.heap.size WX w' from hst)
   clear hst
   have HGA := Veil.mk ga
   clear ga gb
   rw [pin S.ha]
   go_simp
   go_at_call 87
   refine (HPX.out w' HST.out).mono ?_
   rintro e9 w9 ⟨rfl, hm9⟩
   go_simp
   exact S.kS 8 _ (S.hI.ph.next 1 8 _ rfl S.h0 (.inr ⟨5, rfl, HGA.out⟩) (by decide) (hm9))
  refine SY (fun _ S => ?_) ?_
  ·obtain ⟨⟩ := n11 S.hu
   obtain rfl := S.q 8
   rw [pin S.ha]
   go_simp
   exact S.kL 9
  refine SY (fun _ S => ?_) ?_
  ·obtain ⟨⟩ := n11 S.hu
   obtain rfl := S.q 9
   rw [pin S.ha]
   go_simp
   exact S.kL 10
  exact Steps.nil
 ·intro us wE hus dd hD2 hJ
  obtain ⟨⟩ := n11 hus
  have q1 := hJ.ph.all (fun c hc => hD2 c (by
   have : c = 5 \/ c = 8 := by simpa using hc
   show c < 11
   omega))
  obtain rfl := hJ.vq 0 hD2
  obtain rfl := hJ.vq 1 hD2
  obtain rfl := hJ.vq 2 hD2
  obtain rfl := hJ.vq 3 hD2
  obtain rfl := hJ.vq 4 hD2
  obtain rfl := hJ.vq 5 hD2
  obtain rfl := hJ.vq 6 hD2
  obtain rfl := hJ.vq 7 hD2
  obtain rfl := hJ.vq 8 hD2
  obtain rfl := hJ.vq 9 hD2
  obtain rfl := hJ.vq 10 hD2
  clear hJ hD2
  have HQ := Veil.mk (show P1 wE from q1)
  clear q1
  simp only [puts, setAll, List.setIfInBounds_toArray, List.set_cons_zero, List.set_cons_succ]
  rw [HP1.out] at HQ
  have HR := Veil.mk HQ.out
  clear HQ HPX HP1 HWX HY
  have x0 : wE.cell? ⟨xb, 0, none⟩ = some (.int .i64 x.1) := HR.out.2.2.at_ 0
  have x1 : wE.cell? ⟨xb, 1, none⟩ = some (.int .i64 x.2.1) := HR.out.2.2.at_ 1
  have x2 : wE.cell? ⟨xb, 2, none⟩ = some (.string x.2.2) := HR.out.2.2.at_ 2
  have z0 : wE.cell? ⟨rb, 0, none⟩ = some (.int .i64 0) := HR.out.2.1.at_ 0
  have z1 : wE.cell? ⟨rb, 1, none⟩ = some (.int .i64 0) := HR.out.2.1.at_ 1
  have z2 : wE.cell? ⟨rb, 2, none⟩ = some (.string ⟨#[]⟩) := HR.out.2.1.at_ 2
  have q0 := HR.out.2.1.free 0
  have q1 := HR.out.2.1.free 1
  have q2 := HR.out.2.1.free 2
  go_wp2
  have hr3 := ((HR.out.2.1.put 0 (.int .i64 x.1)).put 1 (.int .i64 x.2.1)).put 2 (.string x.2.2)
  have y0 := hr3.at_ 0
  have y1 := hr3.at_ 1
  have y2 := hr3.at_ 2
  have hp3 := ((HR.out.1.put HR.out.2.1.lab rfl HLO.out.2.2.2 HA.out 0 (.int .i64 x.1)).put (HR.out.2.1.put 0 _).lab rfl HLO.out.2.2.2 HA.out 1 (.int .i64 x.2.1)).put ((HR.out.2.1.put 0 _).put 1 _).lab rfl HLO.out.2.2.2 HA.out 2 (.string x.2.2)
  exact bodyPost_ret (v := (.tuple #[valV x, .int .i64 0])) (by simp [results, Tryz.results43, go_sem, y0, y1, y2]) rfl ⟨rfl, hp3.excl (fun k hk => hk.elim)⟩
end
structure PG (N : Nat) (P : (Nat -> Prop) -> World -> Prop) : Prop where
 on : ∀ E w w', P E w -> Below w.heap.size w w' -> P E w'
 excl : ∀ E E' w, P E w -> (∀ k, E' k -> E k \/ w.heap.size <= k) -> P E' w
 put : ∀ E w g i u, P E w -> Lab w g VTy -> E g -> N <= g -> P E (w.setCell ⟨g, i, none⟩ u)
structure BG (WD : World) (P : (Nat -> Prop) -> World -> Prop) (x : Vt) (ic ia is : Nat) (d : Nat -> Bool) (us : Nat -> Value) (w : World) : Prop where
 s0 : d ic = false -> Below WD.heap.size WD w
 s1 : d ic = true -> P (fun k => d ia = true /\ us ia = .pointer (some ⟨k, 0, none⟩)) w
 b : d ia = true -> ∃ g, us ia = .pointer (some ⟨g, 0, none⟩) /\ WD.heap.size <= g /\ (d is = false -> Box w g VTy #[.int .i64 0, .int .i64 0, .string ⟨#[]⟩]) /\ (d is = true -> Box w g VTy #[.int .i64 x.1, .int .i64 x.2.1, .string x.2.2])
 sz : WD.heap.size <= w.heap.size
section
variable {WD w w' : World} {P : (Nat -> Prop) -> World -> Prop} {x : Vt} {ic ia is : Nat} {d : Nat -> Bool} {us : Nat -> Value}
theorem BG.quiet (H : BG WD P x ic ia is d us w) (hP : PG WD.heap.size P) (i : Nat) (v : Value) (hi : i ≠ ic /\ i ≠ ia /\ i ≠ is) (hb : Below w.heap.size w w') : BG WD P x ic ia is (upd d i true) (upd us i v) w' := by
 obtain ⟨h13, h17, h18⟩ := hi
 refine ⟨fun e => ?_, fun e => ?_, fun e => ?_, Nat.le_trans H.sz hb.size⟩
 ·rw [upd_ne _ _ (Ne.symm h13)] at e; exact (H.s0 e).trans (hb.mono H.sz)
 ·rw [upd_ne _ _ (Ne.symm h13)] at e
  rw [upd_ne _ _ (Ne.symm h17), upd_ne _ _ (Ne.symm h17)]
  exact hP.on _ _ _ (H.s1 e) hb
 ·rw [upd_ne _ _ (Ne.symm h17)] at e
  rw [upd_ne _ _ (Ne.symm h17), upd_ne _ _ (Ne.symm h18)]
  obtain ⟨g, e1, e2, e3, e4⟩ := H.b e
  exact ⟨g, e1, e2, fun h => (e3 h).below hb, fun h => (e4 h).below hb⟩
theorem BG.pure (H : BG WD P x ic ia is d us w) (i : Nat) (v : Value) (hi : i ≠ ic /\ i ≠ ia /\ i ≠ is) : BG WD P x ic ia is (upd d i true) (upd us i v) w := by
 obtain ⟨h13, h17, h18⟩ := hi
 refine ⟨fun e => ?_, fun e => ?_, fun e => ?_, H.sz⟩
 ·rw [upd_ne _ _ (Ne.symm h13)] at e; exact H.s0 e
 ·rw [upd_ne _ _ (Ne.symm h13)] at e
  rw [upd_ne _ _ (Ne.symm h17), upd_ne _ _ (Ne.symm h17)]
  exact H.s1 e
 ·rw [upd_ne _ _ (Ne.symm h17)] at e
  rw [upd_ne _ _ (Ne.symm h17), upd_ne _ _ (Ne.symm h18)]
  exact H.b e
theorem BG.mk_ (H : BG WD P x ic ia is d us w) (hP : PG WD.heap.size P) (h1 : ic ≠ ia) (h2 : is ≠ ia) (h18 : d is = false) : BG WD P x ic ia is (upd d ia true) (upd us ia (.pointer (some ⟨w.heap.size, 0, none⟩))) (w.alloc (.cells #[.int .i64 0, .int .i64 0, .string ⟨#[]⟩] VTy)) := by
 have hb : Below w.heap.size w (w.alloc (.cells #[.int .i64 0, .int .i64 0, .string ⟨#[]⟩] VTy)) := (Below.refl _ _).alloc (Nat.le_refl _) _
 refine ⟨fun e => ?_, fun e => ?_, fun _ => ⟨w.heap.size, upd_same _ _ _, H.sz, fun _ => Box.new w VTy _, fun e => ?_⟩, Nat.le_trans H.sz hb.size⟩
 ·rw [upd_ne _ _ h1] at e
  exact (H.s0 e).trans (hb.mono H.sz)
 ·rw [upd_ne _ _ h1] at e
  refine hP.on _ _ _ (hP.excl _ _ _ (H.s1 e) (fun k hk => ?_)) hb
  obtain ⟨-, hk⟩ := hk
  rw [upd_same] at hk
  injection hk with hk; injection hk with hk; injection hk with hk
  exact .inr (by omega)
 ·rw [upd_ne _ _ h2, h18] at e
  cases e
theorem BG.call (H : BG WD P x ic ia is d us w) (hP : PG WD.heap.size P) (h1 : ia ≠ ic) (h2 : is ≠ ic) (h18 : d is = false) (hq : P (fun k => WD.heap.size <= k /\ k < w.heap.size) w') (hk : ∀ g cs, WD.heap.size <= g -> Box w g VTy cs -> Box w' g VTy cs) (hs : w.heap.size <= w'.heap.size) (v : Value) : BG WD P x ic ia is (upd d ic true) (upd us ic v) w' := by
 refine ⟨fun e => ?_, fun _ => ?_, fun e => ?_, Nat.le_trans H.sz hs⟩
 ·rw [upd_same] at e; cases e
 ·refine hP.excl _ _ _ hq (fun k h9 => .inl ?_)
  rw [upd_ne _ _ h1, upd_ne _ _ h1] at h9
  obtain ⟨h17, h9⟩ := h9
  obtain ⟨g, e1, e2, e3, -⟩ := H.b h17
  rw [e1] at h9
  injection h9 with h9; injection h9 with h9; injection h9 with h9
  have hlt := (e3 h18).lt
  exact ⟨by omega, by omega⟩
 ·rw [upd_ne _ _ h1] at e
  rw [upd_ne _ _ h1, upd_ne _ _ h2]
  obtain ⟨g, e1, e2, e3, e4⟩ := H.b e
  refine ⟨g, e1, e2, fun h9 => hk g _ e2 (e3 h9), fun h9 => ?_⟩
  rw [h18] at h9
  cases h9
theorem BG.sto (H : BG WD P x ic ia is d us w) (hP : PG WD.heap.size P) (h1 : ic ≠ is) (h2 : ia ≠ is) (h13 : d ic = true) (h17 : d ia = true) (h18 : d is = false) {g : Nat} (hg : us ia = .pointer (some ⟨g, 0, none⟩)) (v : Value) : BG WD P x ic ia is (upd d is true) (upd us is v) (((w.setCell ⟨g, 0, none⟩ (.int .i64 x.1)).setCell ⟨g, 1, none⟩ (.int .i64 x.2.1)).setCell ⟨g, 2, none⟩ (.string x.2.2)) := by
 obtain ⟨g2, e1, e2, e3, -⟩ := H.b h17
 rw [hg] at e1
 injection e1 with e1; injection e1 with e1; injection e1 with e1
 subst e1
 have hb := e3 h18
 refine ⟨fun e => ?_, fun _ => ?_, fun _ => ?_, ?_⟩
 ·rw [upd_ne _ _ h1, h13] at e; cases e
 ·rw [upd_ne _ _ h2, upd_ne _ _ h2]
  exact hP.put _ _ _ _ _ (hP.put _ _ _ _ _ (hP.put _ _ _ 0 _ (H.s1 h13) hb.lab ⟨h17, hg⟩ e2) (hb.put 0 _).lab ⟨h17, hg⟩ e2) ((hb.put 0 _).put 1 _).lab ⟨h17, hg⟩ e2
 ·rw [upd_ne _ _ h2]
  refine ⟨g, hg, e2, fun e => ?_, fun _ => ((hb.put 0 (.int .i64 x.1)).put 1 (.int .i64 x.2.1)).put 2 (.string x.2.2)⟩
  rw [upd_same] at e; cases e
 ·simp only [World.size_setCell]
  exact H.sz
theorem BG.start : BG WD P x ic ia is (fun _ => false) us WD := ⟨fun _ => Below.refl _ _, fun e => (by cases e), fun e => (by cases e), Nat.le_refl _⟩
end
section
variable {W w w' : World} {h A m ia b n n' : Nat} {f f2 : MF} {ts : List TO} {V0 E : Nat -> Prop} {xs ys : Nat -> Vt}
theorem AS.after (H : AS W h A m f ts ia b V0 n xs E w) (hE : ∀ k, E k -> k < w.heap.size) (hs : W.heap.size <= w.heap.size) {fn : Nat} {args : Array Value} {r : Ending} (HC : ∀ V1, AS w h A m f ts ia b V1 n xs (fun _ => False) w -> (∀ k, V1 k -> k < w.heap.size) -> Calls Tryz.prog fn args w fun e w' => e = r /\ AS w h A m f2 ts ia b V1 n' ys (fun _ => False) w') :
  Calls Tryz.prog fn args w fun e w' => e = r /\ AS W h A m f2 ts ia b V0 n' ys E w' /\ (∀ g T cs, T ∈ kvL -> E g -> Box w g T cs -> Box w' g T cs) /\ w.heap.size <= w'.heap.size := by
 obtain ⟨V1, hr, hv⟩ := H.rebase
 refine (HC V1 (hr.excl (fun k hk => hk.elim)) (fun k hk => (hv k hk).2.2)).mono ?_
 rintro e w' ⟨he, hq⟩
 obtain ⟨ev, xs0, q1, q2, q3, q4, q5⟩ := hq.x
 have hq2 : AS w h A m f2 ts ia b V1 n' ys E w' := ⟨ev, xs0, q1, q2, q3, q4, fun k hk => ⟨(q5 k hk).1, fun h9 => ?_⟩⟩
 ·exact ⟨he, H.trans hq2 (fun k hk => (hv k hk).1) hs, fun g T cs hT hg hb => q4.box hb hT (fun h9 => (hv g h9).2.1 hg), q4.bel.size⟩
 ·rcases (q5 k hk).1 with h8 | h8
  ·exact (hv k h8).2.1 h9
  ·have := hE k h9
   omega
end
theorem whole_any (i : Int) (W : World) : Calls Tryz.prog 362 #[.int .i64 i] W fun e w' => e = .returned (valV (3, i, ⟨#[]⟩)) /\ Below W.heap.size W w' := by
 obtain ⟨rb, hrb⟩ : ∃ rb, W.heap.size = rb := ⟨_, rfl⟩
 obtain ⟨W0, hW0⟩ : ∃ W0, (W.alloc (.cells #[.int .i64 0, .int .i64 0, .string ⟨#[]⟩] 28)) = W0 := ⟨_, rfl⟩
 have bb : Below W.heap.size W W0 := by rw [<- hW0]; exact ((Below.refl _ _).alloc (Nat.le_refl _) _)
 have xrb : Box W0 rb 28 #[.int .i64 0, .int .i64 0, .string ⟨#[]⟩] := by have h9 := Box.new W 28 #[.int .i64 0, .int .i64 0, .string ⟨#[]⟩]; rw [hW0, hrb] at h9; exact h9
 have HW0 := Veil.mk (And.intro hW0 (hrb))
 have HBB := Veil.mk (And.intro bb (xrb))
 have HLO : Veil (W.heap.size <= rb) := ⟨by omega⟩
 clear hW0 bb hrb xrb
 go_enter Tryz.func362, Tryz.ntmps362
 go_upto_region 1 with (fail)
 rw [HW0.out.1, HW0.out.2]
 have z0 : W0.cell? ⟨rb, 0, none⟩ = some (.int .i64 0) := HBB.out.2.at_ 0
 have z1 : W0.cell? ⟨rb, 1, none⟩ = some (.int .i64 0) := HBB.out.2.at_ 1
 have z2 : W0.cell? ⟨rb, 2, none⟩ = some (.string ⟨#[]⟩) := HBB.out.2.at_ 2
 have q0 := HBB.out.2.free 0
 have q1 := HBB.out.2.free 1
 have q2 := HBB.out.2.free 2
 go_wp2
 have hr3 := ((HBB.out.2.put 0 (.int .i64 3)).put 1 (.int .i64 i)).put 2 (.string ⟨#[]⟩)
 have y0 := hr3.at_ 0
 have y1 := hr3.at_ 1
 have y2 := hr3.at_ 2
 have hrb : W.heap.size <= rb := HLO.out
 exact bodyPost_ret (v := valV (3, i, ⟨#[]⟩)) (by simp [results, Tryz.results362, go_sem, y0, y1, y2]) rfl ⟨rfl, ((HBB.out.1.setCell (p := ⟨rb, 0, none⟩) hrb _).setCell (p := ⟨rb, 1, none⟩) hrb _).setCell (p := ⟨rb, 2, none⟩) hrb _⟩
theorem text_str (s : ByteArray) (w : World) : Calls Tryz.prog 117 #[valV (7, 0, s)] w fun e w' => e = .returned (.tuple #[.string s, .int .i64 0]) /\ Below w.heap.size w w' := by
 go_enter Tryz.func117, Tryz.ntmps117
 go_wp2
 go_ret2
 exact ⟨rfl, (Below.refl _ _).alloc (Nat.le_refl _) _⟩
theorem property_str (s : ByteArray) (W : World) : Calls Tryz.prog 85 #[valV (7, 0, s)] W fun e w' => e = .returned (.tuple #[valV (7, 0, s), .int .i64 0]) /\ Below W.heap.size W w' := by
 obtain ⟨kb, hkb⟩ : ∃ kb, W.heap.size = kb := ⟨_, rfl⟩
 obtain ⟨rb, hrb⟩ : ∃ rb, kb + 1 = rb := ⟨_, rfl⟩
 obtain ⟨W0, hW0⟩ : ∃ W0, ((W.alloc (.cells #[.int .i64 7, .int .i64 0, .string s] 28)).alloc (.cells #[.int .i64 0, .int .i64 0, .string ⟨#[]⟩] 28)) = W0 := ⟨_, rfl⟩
 have bb : Below W.heap.size W W0 := by rw [<- hW0]; exact (((Below.refl _ _).alloc (Nat.le_refl _) _).alloc (by simp only [World.size_alloc]; omega) _)
 have xkb : Box W0 kb 28 #[.int .i64 7, .int .i64 0, .string s] := by have h9 := ((Box.new W 28 #[.int .i64 7, .int .i64 0, .string s]).more (.cells #[.int .i64 0, .int .i64 0, .string ⟨#[]⟩] 28)); rw [hW0, hkb] at h9; exact h9
 have xrb : Box W0 rb 28 #[.int .i64 0, .int .i64 0, .string ⟨#[]⟩] := by have h9 := Box.new (W.alloc (.cells #[.int .i64 7, .int .i64 0, .string s] 28)) 28 #[.int .i64 0, .int .i64 0, .string ⟨#[]⟩]; rw [hW0, show (W.alloc (.cells #[.int .i64 7, .int .i64 0, .string s] 28)).heap.size = rb from by simp only [World.size_alloc]; omega] at h9; exact h9
 have HW0 := Veil.mk (And.intro hW0 (And.intro hkb (hrb)))
 have HBB := Veil.mk (And.intro bb (And.intro xkb (xrb)))
 have HLO : Veil (W.heap.size <= kb /\ W.heap.size <= rb) := ⟨by omega⟩
 clear hW0 bb hkb xkb hrb xrb
 have HT := Veil.mk (text_str s W0)
 go_enter Tryz.func85, Tryz.ntmps85
 go_upto_region 1 with (fail)
 rw [HW0.out.1, HW0.out.2.1, HW0.out.2.2]
 have c0 : W0.cell? ⟨kb, 0, none⟩ = some (.int .i64 7) := HBB.out.2.1.at_ 0
 have c1 : W0.cell? ⟨kb, 1, none⟩ = some (.int .i64 0) := HBB.out.2.1.at_ 1
 have c2 : W0.cell? ⟨kb, 2, none⟩ = some (.string s) := HBB.out.2.1.at_ 2
 go_wp2_with (go_at_call 117; ((with_reducible refine HT.out.mono ?_); rintro e w1 ⟨rfl, hb1⟩; have HB1 := Veil.mk hb1; have HR := Veil.mk (HBB.out.2.2.below hb1); clear hb1; have z0 : w1.cell? ⟨rb, 0, none⟩ = some (.int .i64 0) := HR.out.at_ 0; have z1 : w1.cell? ⟨rb, 1, none⟩ = some (.int .i64 0) := HR.out.at_ 1; have z2 : w1.cell? ⟨rb, 2, none⟩ = some (.string ⟨#[]⟩) := HR.out.at_ 2; have q0 := HR.out.free 0; have q1 := HR.out.free 1; have q2 := HR.out.free 2))
 have hr3 := ((HR.out.put 0 (.int .i64 7)).put 1 (.int .i64 0)).put 2 (.string s)
 have y0 := hr3.at_ 0
 have y1 := hr3.at_ 1
 have y2 := hr3.at_ 2
 have hrb : W.heap.size <= rb := HLO.out.2
 have hbW := HBB.out.1.trans (HB1.out.mono HBB.out.1.size)
 exact bodyPost_ret (v := .tuple #[valV (7, 0, s), .int .i64 0]) (by simp [results, Tryz.results85, go_sem, y0, y1, y2]) rfl ⟨rfl, ((hbW.setCell (p := ⟨rb, 0, none⟩) hrb _).setCell (p := ⟨rb, 1, none⟩) hrb _).setCell (p := ⟨rb, 2, none⟩) hrb _⟩
theorem len_at (W : World) : Calls Tryz.prog 119 #[.string lenB, .int .i64 0] W fun e w' => e = .returned (.int .u16 108) /\ Below W.heap.size W w' := by
 refine (Go.Proofs.YtahkohfppakaiaaGreatDoor.W.at_in lenB (by decide) 0 (by decide) W).mono ?_
 rintro e w' ⟨rfl, n, rfl⟩
 refine ⟨?_, (Below.refl _ _).trans ⟨rfl, rfl, rfl, Nat.le_refl _, fun _ _ => rfl⟩⟩
 have : (((Go.Proofs.YtahkohfppakaiaaGreatDoor.W.unitsS lenB)[0]?.getD 0 : Nat) : Int) = 108 := by decide +kernel
 rw [this]
theorem foreign_len (W : World) (o : Nat) (h0 : W.cell? ⟨o, 0, none⟩ = some (.int .i64 1)) (ho : o < W.heap.size) : Calls Tryz.prog 86 #[.pointer (some ⟨o, 0, none⟩), valV (7, 0, lenB)] W fun e w' => e = .returned (.bool false) /\ Below W.heap.size W w' := by
 obtain ⟨kb, hkb⟩ : ∃ kb, W.heap.size = kb := ⟨_, rfl⟩
 obtain ⟨W0, hW0⟩ : ∃ W0, (W.alloc (.cells #[.int .i64 7, .int .i64 0, .string lenB] 28)) = W0 := ⟨_, rfl⟩
 have bb : Below W.heap.size W W0 := by rw [<- hW0]; exact ((Below.refl _ _).alloc (Nat.le_refl _) _)
 have xkb : Box W0 kb 28 #[.int .i64 7, .int .i64 0, .string lenB] := by have h9 := Box.new W 28 #[.int .i64 7, .int .i64 0, .string lenB]; rw [hW0, hkb] at h9; exact h9
 have HW0 := Veil.mk (And.intro hW0 (hkb))
 have HBB := Veil.mk (And.intro bb (xkb))
 have HLO : Veil (W.heap.size <= kb) := ⟨by omega⟩
 clear hW0 bb hkb xkb
 have d0 : W0.cell? ⟨o, 0, none⟩ = some (.int .i64 1) := by rw [HBB.out.1.cell (p := ⟨o, 0, none⟩) ho]; exact h0
 have c0 : W0.cell? ⟨kb, 0, none⟩ = some (.int .i64 7) := HBB.out.2.at_ 0
 have c2 : W0.cell? ⟨kb, 2, none⟩ = some (.string lenB) := HBB.out.2.at_ 2
 have HIX : Veil (Calls Tryz.prog 118 #[.string lenB] W0 fun e w9 => e = .returned (.int .i64 (-1)) /\ Below W0.heap.size W0 w9) := ⟨Go.Proofs.YtahkohfppakaiaaGreatDoor.W.index_at lenB (-1) (by decide) (by show _ = _; decide +kernel) W0⟩
 clear h0
 go_enter Tryz.func86, Tryz.ntmps86
 go_upto_region 1 with (fail)
 rw [HW0.out.1, HW0.out.2]
 go_upto_region 3 with (go_at_call 118; ((with_reducible refine HIX.out.mono ?_); rintro e w1 ⟨rfl, hb1⟩; have HB1 := Veil.mk hb1; clear hb1))
 have e2 : w1.cell? ⟨kb, 2, none⟩ = some (.string lenB) := (HBB.out.2.below HB1.out).at_ 2
 clear c0 c2 d0
 go_wp2
 go_loopw [31] (fun i wr => i = .int .i64 0 /\ wr = w1) (fun _ _ => 0)
 case atStart => exact ⟨rfl, rfl⟩
 case round =>
  obtain ⟨rfl, rfl⟩ := hrel
  have HAT := Veil.mk (len_at wr)
  go_wp2_with (go_at_call 119; ((with_reducible refine HAT.out.mono ?_); rintro e w2 ⟨rfl, hb2⟩))
  go_ret
  exact ⟨rfl, blw2 (blw2 HBB.out.1 HB1.out) hb2⟩
theorem val_len2 (w : World) : Calls Tryz.prog 44 #[.string ⟨#[108, 101, 110, 103, 116, 104]⟩] w fun e w' => e = .returned (valV (7, 0, lenB)) /\ Below w.heap.size w w' :=
 W.val_const _ [0, 108, 0, 101, 0, 110, 0, 103, 0, 116, 0, 104] (by decide) (show Hid _ from (by decide +kernel : W.ofB ⟨#[108, 101, 110, 103, 116, 104]⟩ = [0, 108, 0, 101, 0, 110, 0, 103, 0, 116, 0, 104])) w
structure AB (W : World) (h A m : Nat) (f : MF) (ts : List TO) (ia b : Nat) (V0 : Nat -> Prop) (n : Nat) (xs : Nat -> Vt) (K : Nat -> Prop) (L : List (Nat × TypeId × Array Value)) (E : Nat -> Prop) (w : World) : Prop where
 s : AS W h A m f ts ia b V0 n xs (fun k => E k \/ K k) w
 l : ∀ q ∈ L, Box w q.1 q.2.1 q.2.2
section
variable {W w w' w0 : World} {h A m ia b n n' : Nat} {f f2 : MF} {ts : List TO} {V0 E K : Nat -> Prop} {xs ys : Nat -> Vt} {L : List (Nat × TypeId × Array Value)}
theorem AB.pg (hA : A <= W.heap.size) (N : Nat) (hN : W.heap.size <= N) (hL : ∀ q ∈ L, q.1 < N) : PG N (AB W h A m f ts ia b V0 n xs K L) :=
 ⟨fun _ _ _ H hb => ⟨H.s.on hb, fun q hq => (H.l q hq).below hb⟩,
  fun E E' w H hE => ⟨H.s.excl (fun k hk => hk.elim (fun h9 => (hE k h9).imp (fun h8 => .inl h8) (fun h => h)) (fun h9 => .inl (.inr h9))), H.l⟩,
  fun E w g i u H hl hg hn => ⟨H.s.put hl (.inl hg) (Nat.le_trans hN hn) hA _ _, fun q hq => (H.l q hq).touch (Touch.put (S := fun k => k = g) rfl _ _) (fun e => by have := hL q hq; omega)⟩⟩
theorem AS.callB (H : AS W h A m f ts ia b V0 n xs K w0) (hK : ∀ k, K k -> k < w0.heap.size) (hsz : W.heap.size <= w0.heap.size) (hL : ∀ q ∈ L, K q.1 /\ q.2.1 ∈ kvL /\ Box w0 q.1 q.2.1 q.2.2) (hb : Below w0.heap.size w0 w') {fn : Nat} {args : Array Value} {r : Ending}
  (HC : ∀ V1, AS w' h A m f ts ia b V1 n xs (fun _ => False) w' -> (∀ k, V1 k -> k < w'.heap.size) -> Calls Tryz.prog fn args w' fun e w9 => e = r /\ AS w' h A m f2 ts ia b V1 n' ys (fun _ => False) w9) :
  Calls Tryz.prog fn args w' fun e w9 => e = r /\ AB W h A m f2 ts ia b V0 n' ys K L (fun k => w0.heap.size <= k /\ k < w'.heap.size) w9 /\ (∀ g cs, w0.heap.size <= g -> Box w' g VTy cs -> Box w9 g VTy cs) /\ w'.heap.size <= w9.heap.size := by
 have hs := hb.size
 have H1 := (H.excl (E' := fun k => K k \/ w0.heap.size <= k) (fun k hk => hk)).on hb
 have H2 := H1.excl (E' := fun k => (w0.heap.size <= k /\ k < w'.heap.size) \/ K k) (fun k hk => .inl (hk.elim (fun h9 => .inr h9.1) (fun h9 => .inl h9)))
 refine (H2.after (fun k hk => hk.elim (fun h9 => h9.2) (fun h9 => Nat.lt_of_lt_of_le (hK k h9) hs)) (Nat.le_trans hsz hs) HC).mono ?_
 rintro e w9 ⟨he, h1, h2, h3⟩
 refine ⟨he, ⟨h1, fun q hq => ?_⟩, fun g cs hg hbx => h2 g _ cs (by decide) (.inl ⟨hg, hbx.lt⟩) hbx, h3⟩
 obtain ⟨a1, a2, a3⟩ := hL q hq
 exact h2 q.1 q.2.1 q.2.2 a2 (.inr a1) (a3.below hb)
theorem AS.mputlen (H : AS W h A m f ts ia b V0 n xs (fun _ => False) W) (hia : ia < ts.length) (n2 : Nat) (hn2 : n2 <= 10000) :
  Calls Tryz.prog 43 #[.pointer (some ⟨m, 0, none⟩), valV (9, (ia : Int) + 1, ⟨#[]⟩), valV (7, 0, lenB), valV (3, (n2 : Int), ⟨#[]⟩)] W fun e w' => e = .returned (.tuple #[valV (3, (n2 : Int), ⟨#[]⟩), .int .i64 0]) /\ AS W h A m f ts ia b V0 n2 (rz n xs) (fun _ => False) w' := by
 have hbx : ∃ ev, Box W b 63 (objC 1 3 false (.pointer none) ev) := by
  obtain ⟨ev, xs0, h1, -⟩ := H.x
  exact ⟨ev, h1.mem_b (List.mem_of_getElem? (List.getElem?_set_self hia)) rfl⟩
 obtain ⟨ev, hbx⟩ := hbx
 refine H.mput hia (7, 0, lenB) (7, 0, lenB) (3, (n2 : Int), ⟨#[]⟩) n2 (rz n xs) ⟨fun W' hb => ?_⟩ ⟨fun W' hb => property_str lenB W'⟩ ⟨fun W' hb => ?_⟩ ⟨fun W' E V1 hs hE => hs.hputlen hia hE (Nat.le_refl _) n2 hn2⟩
 ·exact has_str W' b lenB ((hbx.below hb).at_ 0) (hbx.below hb).lt
 ·exact foreign_len W' b ((hbx.below hb).at_ 0) (hbx.below hb).lt
theorem AS.withlen (H : AS W h A m f ts ia b V0 n xs (fun _ => False) W) (hia : ia < ts.length) (n2 : Nat) (hn2 : n2 <= 10000) :
  Calls Tryz.prog 364 #[.pointer (some ⟨m, 0, none⟩), valV (9, (ia : Int) + 1, ⟨#[]⟩), .int .i64 (n2 : Int)] W fun e w' => e = .returned (.tuple #[valV (9, (ia : Int) + 1, ⟨#[]⟩), .int .i64 0]) /\ AS W h A m f ts ia b V0 n2 (rz n xs) (fun _ => False) w' := by
 obtain ⟨fv, hfv⟩ : ∃ fv : Vt, ((9, (ia : Int) + 1, ⟨#[]⟩) : Vt) = fv := ⟨_, rfl⟩
 have HA : Veil (A <= W.heap.size) := ⟨H.lt⟩
 obtain ⟨tb, htb⟩ : ∃ tb, W.heap.size = tb := ⟨_, rfl⟩
 obtain ⟨rb, hrb⟩ : ∃ rb, tb + 1 = rb := ⟨_, rfl⟩
 obtain ⟨W0, hW0⟩ : ∃ W0, ((W.alloc (.cells #[.int .i64 fv.1, .int .i64 fv.2.1, .string fv.2.2] 28)).alloc (.cells #[.int .i64 0, .int .i64 0, .string ⟨#[]⟩] 28)) = W0 := ⟨_, rfl⟩
 have bb : Below W.heap.size W W0 := by rw [<- hW0]; exact (((Below.refl _ _).alloc (Nat.le_refl _) _).alloc (by simp only [World.size_alloc]; omega) _)
 have xtb : Box W0 tb 28 #[.int .i64 fv.1, .int .i64 fv.2.1, .string fv.2.2] := by have h9 := ((Box.new W 28 #[.int .i64 fv.1, .int .i64 fv.2.1, .string fv.2.2]).more (.cells #[.int .i64 0, .int .i64 0, .string ⟨#[]⟩] 28)); rw [hW0, htb] at h9; exact h9
 have xrb : Box W0 rb 28 #[.int .i64 0, .int .i64 0, .string ⟨#[]⟩] := by have h9 := Box.new (W.alloc (.cells #[.int .i64 fv.1, .int .i64 fv.2.1, .string fv.2.2] 28)) 28 #[.int .i64 0, .int .i64 0, .string ⟨#[]⟩]; rw [hW0, show (W.alloc (.cells #[.int .i64 fv.1, .int .i64 fv.2.1, .string fv.2.2] 28)).heap.size = rb from by simp only [World.size_alloc]; omega] at h9; exact h9
 have HW0 := Veil.mk (And.intro hW0 (And.intro htb (hrb)))
 have HBB := Veil.mk (And.intro bb (And.intro xtb (xrb)))
 have HLO : Veil (W.heap.size <= tb /\ W.heap.size <= rb) := ⟨by omega⟩
 clear hW0 bb htb xtb hrb xrb
 have HS0 := Veil.mk ((H.excl (E' := fun k => W.heap.size <= k) (fun k hk => .inr hk)).on HBB.out.1)
 have HPL : Veil (∀ w9 V1, AS w9 h A m f ts ia b V1 n xs (fun _ => False) w9 -> Calls Tryz.prog 43 #[.pointer (some ⟨m, 0, none⟩), valV fv, valV (7, 0, lenB), valV (3, (n2 : Int), ⟨#[]⟩)] w9 fun e w' => e = .returned (.tuple #[valV (3, (n2 : Int), ⟨#[]⟩), .int .i64 0]) /\ AS w9 h A m f ts ia b V1 n2 (rz n xs) (fun _ => False) w') := ⟨fun w9 V1 hs => by rw [<- hfv]; exact hs.mputlen hia n2 hn2⟩
 rw [hfv]
 clear hfv H hia hn2
 go_enter Tryz.func364, Tryz.ntmps364
 go_upto_region 1 with (fail)
 rw [HW0.out.1, HW0.out.2.1, HW0.out.2.2]
 obtain ⟨WD, hWD⟩ : ∃ WD, W0.drew = WD := ⟨_, rfl⟩
 have HBF : Veil (Below W.heap.size W WD) := ⟨by rw [<- hWD]; exact HBB.out.1.drew⟩
 have HXtb : Veil (Box WD tb 28 #[.int .i64 fv.1, .int .i64 fv.2.1, .string fv.2.2]) := ⟨by rw [<- hWD]; exact HBB.out.2.1.drew⟩
 have HXrb : Veil (Box WD rb 28 #[.int .i64 0, .int .i64 0, .string ⟨#[]⟩]) := ⟨by rw [<- hWD]; exact HBB.out.2.2.drew⟩
 have HWD := Veil.mk hWD
 clear hWD HBB
 have HP9 : Veil (PG WD.heap.size (AB W h A m f ts ia b V0 n2 (rz n xs) (fun k => k = tb \/ k = rb) [(tb, VTy, #[.int .i64 fv.1, .int .i64 fv.2.1, .string fv.2.2]), (rb, VTy, #[.int .i64 0, .int .i64 0, .string ⟨#[]⟩])])) := ⟨AB.pg HA.out _ HBF.out.size (by
  intro q hq
  simp only [List.mem_cons, List.not_mem_nil, or_false] at hq
  rcases hq with rfl | rfl
  ·exact HXtb.out.lt
  ·exact HXrb.out.lt)⟩
 have HC9 : Veil (∀ w', Below WD.heap.size WD w' -> Calls Tryz.prog 43 #[.pointer (some ⟨m, 0, none⟩), valV fv, valV (7, 0, lenB), valV (3, (n2 : Int), ⟨#[]⟩)] w' fun e w9 => e = .returned (.tuple #[valV (3, (n2 : Int), ⟨#[]⟩), .int .i64 0]) /\ AB W h A m f ts ia b V0 n2 (rz n xs) (fun k => k = tb \/ k = rb) [(tb, VTy, #[.int .i64 fv.1, .int .i64 fv.2.1, .string fv.2.2]), (rb, VTy, #[.int .i64 0, .int .i64 0, .string ⟨#[]⟩])] (fun k => WD.heap.size <= k /\ k < w'.heap.size) w9 /\ (∀ g cs, WD.heap.size <= g -> Box w' g VTy cs -> Box w9 g VTy cs) /\ w'.heap.size <= w9.heap.size) := ⟨fun w' hb => by
  have hs0 : AS W h A m f ts ia b V0 n xs (fun k => W.heap.size <= k) WD := by rw [<- HWD.out]; exact HS0.out.on ((Below.refl _ _).drew)
  refine AS.callB (K := (fun k => k = tb \/ k = rb)) (hs0.excl (fun k hk => .inl (by rcases hk with rfl | rfl; exact HLO.out.1; exact HLO.out.2))) (fun k hk => by rcases hk with rfl | rfl; exact HXtb.out.lt; exact HXrb.out.lt) HBF.out.size (fun q hq => ?_) hb (fun V1 h1 _ => HPL.out w' V1 h1)
  simp only [List.mem_cons, List.not_mem_nil, or_false] at hq
  rcases hq with rfl | rfl
  ·exact ⟨.inl rfl, by show VTy ∈ kvL; decide, HXtb.out⟩
  ·exact ⟨.inr rfl, by show VTy ∈ kvL; decide, HXrb.out⟩⟩
 clear HS0 HPL HXrb HBF HW0
 refine wp_region_chain [qp m 0, qv fv, qv (7, 0, lenB), qi (n2 : Int), qv (3, (n2 : Int), ⟨#[]⟩), qq (.tuple #[valV (3, (n2 : Int), ⟨#[]⟩), .int .i64 0]), qq (.tuple #[valV (3, (n2 : Int), ⟨#[]⟩), .int .i64 0]), qv (3, (n2 : Int), ⟨#[]⟩), qi 0, none, none, qi 0] (BG WD (AB W h A m f ts ia b V0 n2 (rz n xs) (fun k => k = tb \/ k = rb) [(tb, VTy, #[.int .i64 fv.1, .int .i64 fv.2.1, .string fv.2.2]), (rb, VTy, #[.int .i64 0, .int .i64 0, .string ⟨#[]⟩])]) (3, (n2 : Int), ⟨#[]⟩) 5 9 10) [some 11, some 12, some 13, some 14, some 15, some 16, some 10, some 17, some 18, some 8, none, some 9] (curV' _ [some 11, some 12, some 13, some 14, some 15, some 16, some 10, some 17, some 18, some 8, none, some 9]) (by kernel_rfl) rfl rfl (puts_cur _ _) (by rw [HWD.out]; exact BG.start) ?_ (by kernel_rfl) ?_
 ·refine SY (fun _ S => ?_) ?_
  ·obtain ⟨⟩ := n12 S.hu
   rw [pin S.ha]
   go_simp
   exact S.kS 0 _ (S.hI.ph.pure 0 _ (by decide))
  refine SY (fun w' S => ?_) ?_
  ·obtain ⟨⟩ := n12 S.hu
   have hz := (S.hI.bwd [1] 5 1 (by kernel_rfl) rfl S.h0)
   have hbl := S.hI.ph.s0 hz
   have hq9 := HXtb.out.below hbl
   have c0 : w'.cell? ⟨tb, 0, none⟩ = some (.int .i64 fv.1) := hq9.at_ 0
   have c1 : w'.cell? ⟨tb, 1, none⟩ = some (.int .i64 fv.2.1) := hq9.at_ 1
   have c2 : w'.cell? ⟨tb, 2, none⟩ = some (.string fv.2.2) := hq9.at_ 2
   clear hq9
   clear hbl hz
   rw [pin S.ha]
   go_simp
   exact S.kS 1 _ (S.hI.ph.pure 1 _ (by decide))
  refine SY (fun _ S => ?_) ?_
  ·obtain ⟨⟩ := n12 S.hu
   rw [pin S.ha]
   go_simp
   go_at_call 44
   refine (val_len2 _).mono ?_
   rintro e9 w9 ⟨rfl, hm9⟩
   go_simp
   exact S.kS 2 _ (S.hI.ph.quiet HP9.out 2 _ (by decide) hm9)
  refine SY (fun _ S => ?_) ?_
  ·obtain ⟨⟩ := n12 S.hu
   rw [pin S.ha]
   go_simp
   exact S.kS 3 _ (S.hI.ph.pure 3 _ (by decide))
  refine SY (fun _ S => ?_) ?_
  ·obtain ⟨⟩ := n12 S.hu
   obtain rfl := S.q 3
   rw [pin S.ha]
   go_simp
   go_at_call 362
   refine (whole_any _ _).mono ?_
   rintro e9 w9 ⟨rfl, hm9⟩
   go_simp
   exact S.kS 4 _ (S.hI.ph.quiet HP9.out 4 _ (by decide) hm9)
  refine SY (fun w' S => ?_) ?_
  ·obtain ⟨⟩ := n12 S.hu
   obtain rfl := S.q 0
   obtain rfl := S.q 1
   obtain rfl := S.q 2
   obtain rfl := S.q 4
   have h18 := (S.hI.bwd [5] 10 5 (by kernel_rfl) rfl S.h0)
   have hbl := S.hI.ph.s0 S.h0
   have HX9 := Veil.mk (HC9.out w' hbl)
   clear hbl
   rw [pin S.ha]
   go_simp
   go_at_call 43
   refine HX9.out.mono ?_
   rintro e9 w9 ⟨rfl, hq9, hk9, hs9⟩
   go_simp
   exact S.kS 5 _ (S.hI.ph.call HP9.out (by decide) (by decide) h18 hq9 hk9 hs9 _)
  refine SY (fun _ S => ?_) ?_
  ·obtain ⟨⟩ := n12 S.hu
   obtain rfl := S.q 5
   rw [pin S.ha]
   go_simp
   exact S.kS 6 _ (S.hI.ph.pure 6 _ (by decide))
  refine SY (fun _ S => ?_) ?_
  ·obtain ⟨⟩ := n12 S.hu
   obtain rfl := S.q 6
   rw [pin S.ha]
   go_simp
   exact S.kS 7 _ (S.hI.ph.pure 7 _ (by decide))
  refine SY (fun _ S => ?_) ?_
  ·obtain ⟨⟩ := n12 S.hu
   obtain rfl := S.q 6
   rw [pin S.ha]
   go_simp
   exact S.kS 8 _ (S.hI.ph.pure 8 _ (by decide))
  refine SY (fun _ S => ?_) ?_
  ·obtain ⟨⟩ := n12 S.hu
   have h18 := (S.hI.bwd [9] 10 9 (by kernel_rfl) rfl S.h0)
   rw [pin S.ha]
   go_simp
   exact S.kN 9 _ (S.hI.ph.mk_ HP9.out (by decide) (by decide) h18)
  refine SY (fun w' S => ?_) ?_
  ·obtain ⟨_, _, _, _, _, _, _, _, _, u9⟩ := n12 S.hu
   obtain rfl := S.q 7
   have h13 := (gen_after 5 (by kernel_rfl) S.hp)
   have h17 := gen_after 9 (by kernel_rfl) S.hp
   obtain ⟨g, hg, hlo, hz9, -⟩ := S.hI.ph.b h17
   replace hg : u9 = .pointer (some ⟨g, 0, none⟩) := hg
   subst hg
   have hzb := hz9 S.h0
   have z0 : w'.cell? ⟨g, 0, none⟩ = some (.int .i64 0) := hzb.at_ 0
   have z1 : w'.cell? ⟨g, 1, none⟩ = some (.int .i64 0) := hzb.at_ 1
   have z2 : w'.cell? ⟨g, 2, none⟩ = some (.string ⟨#[]⟩) := hzb.at_ 2
   have q0 := hzb.free 0
   have q1 := hzb.free 1
   have q2 := hzb.free 2
   clear hzb hz9
   rw [pin S.ha]
   go_simp
   exact S.kN 10 undef (S.hI.ph.sto HP9.out (by decide) (by decide) h13 h17 S.h0 rfl _)
  refine SY (fun _ S => ?_) ?_
  ·obtain ⟨⟩ := n12 S.hu
   obtain rfl := S.q 8
   rw [pin S.ha]
   go_simp
   exact S.kS 11 _ (S.hI.ph.pure 11 _ (by decide))
  exact Steps.nil
 ·intro us wE hus dd hD2 hJ
  obtain ⟨_, _, _, _, _, _, _, _, _, p9⟩ := n12 hus
  have hph := hJ.ph
  obtain rfl := hJ.vq 0 hD2
  obtain rfl := hJ.vq 1 hD2
  obtain rfl := hJ.vq 2 hD2
  obtain rfl := hJ.vq 3 hD2
  obtain rfl := hJ.vq 4 hD2
  obtain rfl := hJ.vq 5 hD2
  obtain rfl := hJ.vq 6 hD2
  obtain rfl := hJ.vq 7 hD2
  obtain rfl := hJ.vq 8 hD2
  obtain rfl := hJ.vq 11 hD2
  clear hJ
  obtain ⟨gv, hgv, hgl, -, hgb⟩ := hph.b (hD2 9 (by show 9 < 12; decide))
  replace hgv : p9 = .pointer (some ⟨gv, 0, none⟩) := hgv
  subst hgv
  have hgb := hgb (hD2 10 (by show 10 < 12; decide))
  have hdo := hph.s1 (hD2 5 (by show 5 < 12; decide))
  have hdo := HP9.out.excl _ (fun k => k = gv) _ hdo (fun k hk => .inl ⟨(hD2 9 (by show 9 < 12; decide)), by subst hk; rfl⟩)
  have HQ := Veil.mk (And.intro hdo (And.intro hgb hgl))
  clear hph hD2 hdo hgb hgl HP9 HC9 HWD
  simp only [puts, setAll, List.setIfInBounds_toArray, List.set_cons_zero, List.set_cons_succ]
  have HR := Veil.mk (And.intro (HQ.out.1.l _ (List.mem_cons_self ..)) (And.intro (HQ.out.1.l _ (List.mem_cons_of_mem _ (List.mem_cons_self ..))) HQ.out.1.s))
  clear HQ HXtb
  have c0 : wE.cell? ⟨tb, 0, none⟩ = some (.int .i64 fv.1) := HR.out.1.at_ 0
  have c1 : wE.cell? ⟨tb, 1, none⟩ = some (.int .i64 fv.2.1) := HR.out.1.at_ 1
  have c2 : wE.cell? ⟨tb, 2, none⟩ = some (.string fv.2.2) := HR.out.1.at_ 2
  have z0 : wE.cell? ⟨rb, 0, none⟩ = some (.int .i64 0) := HR.out.2.1.at_ 0
  have z1 : wE.cell? ⟨rb, 1, none⟩ = some (.int .i64 0) := HR.out.2.1.at_ 1
  have z2 : wE.cell? ⟨rb, 2, none⟩ = some (.string ⟨#[]⟩) := HR.out.2.1.at_ 2
  have q0 := HR.out.2.1.free 0
  have q1 := HR.out.2.1.free 1
  have q2 := HR.out.2.1.free 2
  go_wp2
  have hr3 := ((HR.out.2.1.put 0 (.int .i64 fv.1)).put 1 (.int .i64 fv.2.1)).put 2 (.string fv.2.2)
  have y0 := hr3.at_ 0
  have y1 := hr3.at_ 1
  have y2 := hr3.at_ 2
  have hp3 := ((HR.out.2.2.put HR.out.2.1.lab (.inr (.inr rfl)) HLO.out.2 HA.out 0 (.int .i64 fv.1)).put (HR.out.2.1.put 0 _).lab (.inr (.inr rfl)) HLO.out.2 HA.out 1 (.int .i64 fv.2.1)).put ((HR.out.2.1.put 0 _).put 1 _).lab (.inr (.inr rfl)) HLO.out.2 HA.out 2 (.string fv.2.2)
  exact bodyPost_ret (v := .tuple #[valV fv, .int .i64 0]) (by simp [results, Tryz.results364, go_sem, y0, y1, y2]) rfl ⟨rfl, hp3.excl (fun k hk => hk.elim)⟩
end
theorem EL.bk {A : Nat} {W W' : World} {B n : Nat} {ev : Value} {xs : Nat -> Vt} (h : EL W B ev n xs) (hk : Bk A W W') : EL W' B ev n xs := h.imp (fun h => h) (fun ⟨g, cap, e, h9⟩ => ⟨g, cap, e, by
 obtain ⟨l, hb, hx⟩ := h9.bx
 exact ⟨h9.lo, h9.le, h9.sm, l, hk.box hb, hx⟩⟩)
theorem kI_ne (n : Nat) (hn : n < 100) : ((kI n).toList == []) = false := by
 have key : ∀ k : Fin 100, ((kI k.1).toList == []) = false := by decide +kernel
 exact key ⟨n, hn⟩
section
variable {W w w' w0 : World} {h A m ia b n n' : Nat} {f f2 : MF} {ts : List TO} {V0 E K : Nat -> Prop} {xs ys : Nat -> Vt} {t2 : TO}
theorem AS.congr (H : AS W h A m f ts ia b V0 n xs E w) (he : ∀ j, j < n -> xs j = ys j) : AS W h A m f ts ia b V0 n ys E w := by
 obtain ⟨ev, xs0, h1, h2, h3, h4, h5⟩ := H.x
 exact ⟨ev, xs0, h1, h2, fun j hj => (h3 j hj).trans (he j hj), h4, h5⟩
theorem AS.spend (H : AS W h A m f ts ia b V0 n xs E w) (hov : f.ov = false) (hs0 : 0 <= f.st) (hs1 : f.st < 4194304) (hl : ts.length < 100000) :
  Calls Tryz.prog 90 #[.pointer (some ⟨m, 0, none⟩), .int .i64 1] w fun e w' => e = .returned (.bool true) /\ AS W h A m { f with st := f.st + 1 } ts ia b V0 n xs E w' /\ Bk A w w' := by
 obtain ⟨ev, xs0, h1, h2, h3, h4, h5⟩ := H.x
 refine (h1.spend hov hs0 hs1 (by rw [List.length_set]; exact hl)).mono ?_
 rintro e w' ⟨he, hm, hk⟩
 exact ⟨he, ⟨ev, xs0, hm, h2.bk hk, h3, h4.trans (hk.bv (fun _ => False)) (fun k h9 => h9.elim), h5⟩, hk⟩
theorem AS.mputel (H : AS W h A m f ts ia b V0 n xs (fun _ => False) W) (hia : ia < ts.length) (hne : ia ≠ 2) (ht2 : ts[2]? = some t2) (hp2 : PlT t2 1 e2W) (hl : ts.length < 100000) (hn : n < 100) (x : Vt) :
  Calls Tryz.prog 43 #[.pointer (some ⟨m, 0, none⟩), valV (9, (ia : Int) + 1, ⟨#[]⟩), valV (3, (n : Int), ⟨#[]⟩), valV x] W fun e w' => e = .returned (.tuple #[valV x, .int .i64 0]) /\ AS W h A m f ts ia b V0 (n + 1) (fun j => if j = n then x else xs j) (fun _ => False) w' := by
 have hbx : ∃ ev, Box W b 63 (objC 1 3 false (.pointer none) ev) /\ ∃ ao cap, ev = .slice ao n cap := by
  obtain ⟨ev, xs0, h1, h2, -⟩ := H.x
  exact ⟨ev, h1.mem_b (List.mem_of_getElem? (List.getElem?_set_self hia)) rfl, h2.evs⟩
 obtain ⟨ev, hbx, ao, cap, hev⟩ := hbx
 obtain ⟨k1, k2, k3⟩ := kI_all n (by omega)
 refine H.mput hia (3, (n : Int), ⟨#[]⟩) (7, 0, kI n) x (n + 1) (fun j => if j = n then x else xs j) ⟨fun W' hb => ?_⟩ ⟨fun W' hb => property_int n (by omega) W' ⟨fun w2 _ => fmt_small n hn w2⟩⟩ ⟨fun W' hb => ?_⟩ ⟨fun W' E V1 hs hE => hs.hput hia hne ht2 hp2 hl (by omega) hE (Nat.le_refl _) x⟩
 ·exact has_no W' b n ev ao cap n hev (Nat.le_refl _) (by omega) ((hbx.below hb).at_ 0) ((hbx.below hb).at_ 4) (hbx.below hb).lt
 ·exact foreign_idx W' b (kI n) n (by omega) (kI_ne n hn) k1 ((hbx.below hb).at_ 0) (hbx.below hb).lt
theorem AS.push (H : AS W h A m f ts ia b V0 n xs (fun _ => False) W) (hia : ia < ts.length) (hne : ia ≠ 2) (ht2 : ts[2]? = some t2) (hp2 : PlT t2 1 e2W) (hl : ts.length < 100000) (l : List Vt) (hn : n + l.length <= 100) (hov : f.ov = false) (hs0 : 0 <= f.st) (hs1 : f.st + l.length < 4194304) (args : Value) (hr : RowV W args l) (hV : ∀ k, args.ownBlock = some k -> ¬ V0 k) :
  Calls Tryz.prog 353 #[.pointer (some ⟨m, 0, none⟩), valV (9, (ia : Int) + 1, ⟨#[]⟩), .pointer (some ⟨b, 0, none⟩), args] W fun e w' => e = .returned (.tuple #[valV (3, (n : Int) + (l.length : Int), ⟨#[]⟩), .int .i64 0]) /\ AS W h A m { f with st := f.st + l.length } ts ia b V0 (n + l.length) (fun i => if i < n then xs i else lx l (i - n)) (fun _ => False) w' := by
 obtain ⟨fv, hfv⟩ : ∃ fv : Vt, ((9, (ia : Int) + 1, ⟨#[]⟩) : Vt) = fv := ⟨_, rfl⟩
 have HA : Veil (A <= W.heap.size) := ⟨H.lt⟩
 have hr0 := hr
 obtain ⟨ao, cap, ha, hcap, hnil, hrow⟩ := hr0
 have HR := Veil.mk (And.intro hr hV)
 obtain ⟨ys, hys⟩ : ∃ ys : Nat -> Vt, (fun i => if i < n then xs i else lx l (i - n)) = ys := ⟨_, rfl⟩
 have hy0 : ∀ j, j < n -> xs j = ys j := fun j hj => by rw [<- hys]; show _ = if j < n then _ else _; rw [if_pos hj]
 have hyj : ∀ j, lx l j = ys (n + j) := fun j => by rw [<- hys]; show _ = if n + j < n then _ else _; rw [if_neg (by omega), Nat.add_sub_cancel_left]
 rw [hys]
 obtain ⟨tb, htb⟩ : ∃ tb, W.heap.size = tb := ⟨_, rfl⟩
 obtain ⟨rb, hrb⟩ : ∃ rb, tb + 1 = rb := ⟨_, rfl⟩
 obtain ⟨W0, hW0⟩ : ∃ W0, ((W.alloc (.cells #[.int .i64 fv.1, .int .i64 fv.2.1, .string fv.2.2] 28)).alloc (.cells #[.int .i64 0, .int .i64 0, .string ⟨#[]⟩] 28)) = W0 := ⟨_, rfl⟩
 have bb : Below W.heap.size W W0 := by rw [<- hW0]; exact (((Below.refl _ _).alloc (Nat.le_refl _) _).alloc (by simp only [World.size_alloc]; omega) _)
 have xtb : Box W0 tb 28 #[.int .i64 fv.1, .int .i64 fv.2.1, .string fv.2.2] := by have h9 := ((Box.new W 28 #[.int .i64 fv.1, .int .i64 fv.2.1, .string fv.2.2]).more (.cells #[.int .i64 0, .int .i64 0, .string ⟨#[]⟩] 28)); rw [hW0, htb] at h9; exact h9
 have xrb : Box W0 rb 28 #[.int .i64 0, .int .i64 0, .string ⟨#[]⟩] := by have h9 := Box.new (W.alloc (.cells #[.int .i64 fv.1, .int .i64 fv.2.1, .string fv.2.2] 28)) 28 #[.int .i64 0, .int .i64 0, .string ⟨#[]⟩]; rw [hW0, show (W.alloc (.cells #[.int .i64 fv.1, .int .i64 fv.2.1, .string fv.2.2] 28)).heap.size = rb from by simp only [World.size_alloc]; omega] at h9; exact h9
 have HW0 := Veil.mk (And.intro hW0 (And.intro htb (hrb)))
 have HBB := Veil.mk (And.intro bb (And.intro xtb (xrb)))
 have HLO : Veil (W.heap.size <= tb /\ W.heap.size <= rb) := ⟨by omega⟩
 clear hW0 bb htb xtb hrb xrb
 have HS0 := Veil.mk ((((H.congr hy0).excl (E' := fun k => W.heap.size <= k) (fun k hk => .inr hk)).on HBB.out.1).excl (E' := fun k => k = tb \/ k = rb) (fun k hk => .inl (by rcases hk with rfl | rfl; exact HLO.out.1; exact HLO.out.2)))
 have HC4 : Veil (∃ ao2 c2, W0.cell? ⟨b, 4, none⟩ = some (.slice ao2 n c2)) := ⟨by
  obtain ⟨ev, xs0, h1, h2, -⟩ := H.x
  obtain ⟨ao2, c2, he⟩ := h2.evs
  have hbx := (h1.mem_b (List.mem_of_getElem? (List.getElem?_set_self hia)) rfl)
  exact ⟨ao2, c2, by rw [<- he]; exact (hbx.below HBB.out.1).at_ 4⟩⟩
 obtain ⟨ao2, c2, hc4⟩ := HC4.out
 have HPL : Veil (∀ w9 V1 j v, j < l.length -> l[j]? = some v -> AS w9 h A m { f with st := f.st + ((j : Int) + 1) } ts ia b V1 (n + j) ys (fun _ => False) w9 -> Calls Tryz.prog 43 #[.pointer (some ⟨m, 0, none⟩), valV fv, valV (3, ((n + j : Nat) : Int), ⟨#[]⟩), valV v] w9 fun e w' => e = .returned (.tuple #[valV v, .int .i64 0]) /\ AS w9 h A m { f with st := f.st + ((j : Int) + 1) } ts ia b V1 (n + j + 1) ys (fun _ => False) w') := ⟨fun w9 V1 j v hj hv hs => by
  rw [<- hfv]
  refine (hs.mputel hia hne ht2 hp2 hl (by omega) v).mono ?_
  rintro e w' ⟨he, hq⟩
  refine ⟨he, hq.congr (fun i hi => ?_)⟩
  by_cases e9 : i = n + j
  ·rw [if_pos e9, e9, <- hyj j]
   show v = l.getD j _
   rw [List.getD_eq_getElem?_getD, hv]
   rfl
  ·rw [if_neg e9]⟩
 have HWL : Veil (∀ w9 V1, AS w9 h A m { f with st := f.st + (l.length : Int) } ts ia b V1 (n + l.length) ys (fun _ => False) w9 -> Calls Tryz.prog 364 #[.pointer (some ⟨m, 0, none⟩), valV fv, .int .i64 ((n + l.length : Nat) : Int)] w9 fun e w' => e = .returned (.tuple #[valV fv, .int .i64 0]) /\ AS w9 h A m { f with st := f.st + (l.length : Int) } ts ia b V1 (n + l.length) ys (fun _ => False) w') := ⟨fun w9 V1 hs => by
  rw [<- hfv]
  refine (hs.withlen hia (n + l.length) (by omega)).mono ?_
  rintro e w' ⟨he, hq⟩
  exact ⟨he, hq.congr (fun i hi => by show (if i < n + l.length then _ else _) = _; rw [if_pos hi])⟩⟩
 have HK := Veil.mk (And.intro hov (And.intro hs0 (And.intro hs1 (And.intro hl hn))))
 have HNIL := Veil.mk hnil
 have HROW := Veil.mk hrow
 subst ha
 rw [hfv]
 clear hfv H hia hne ht2 hp2 hl hov hs0 hs1 hr hV hys hy0 hyj hnil hrow HC4
 have hn100 : n + l.length <= 100 := hn
 have hn0 : (0 : Int) <= (n : Int) := by omega
 clear hn
 go_enter Tryz.func353, Tryz.ntmps353
 go_upto_region 1 with (fail)
 rw [HW0.out.1, HW0.out.2.1, HW0.out.2.2]
 go_wp2
 clear hc4
 have H0 : Veil (AS W h A m { f with st := f.st + ((0 : Nat) : Int) } ts ia b V0 (n + 0) ys (fun k => k = tb \/ k = rb) W0 /\ Box W0 tb VTy #[.int .i64 fv.1, .int .i64 fv.2.1, .string fv.2.2] /\ Box W0 rb VTy #[.int .i64 0, .int .i64 0, .string ⟨#[]⟩]) := ⟨by
  refine ⟨?_, HBB.out.2.1, HBB.out.2.2⟩
  have e9 : ({ f with st := f.st + ((0 : Nat) : Int) } : MF) = f := by show ({ f with st := f.st + 0 } : MF) = f; rw [Int.add_zero]
  rw [e9]
  exact HS0.out⟩
 have HSZ : Veil (W.heap.size <= W0.heap.size) := ⟨HBB.out.1.size⟩
 clear HS0 HBB HW0
 go_loopw [10, 24] (fun c i wr => ∃ j q : Nat, j <= l.length /\ q = n + j /\ c = .int .i64 (q : Int) /\ i = .int .i64 (j : Int) /\ AS W h A m { f with st := f.st + (j : Int) } ts ia b V0 (n + j) ys (fun k => k = tb \/ k = rb) wr /\ Box wr tb VTy #[.int .i64 fv.1, .int .i64 fv.2.1, .string fv.2.2] /\ Box wr rb VTy #[.int .i64 0, .int .i64 0, .string ⟨#[]⟩] /\ W.heap.size <= wr.heap.size) (fun _ i _ => l.length - (intOf i).toNat)
 case atStart => exact ⟨0, n, by omega, rfl, rfl, rfl, H0.out.1, H0.out.2.1, H0.out.2.2, HSZ.out⟩
 case round =>
  clear H0
  obtain ⟨j, q, hj, hq, rfl, rfl, hs, hbt, hbr, hsz⟩ := hrel
  have hj0 : (0 : Int) <= (j : Int) := by omega
  have hq0 : (0 : Int) <= (q : Int) := by omega
  have hq1 : (q : Int) <= 100 := by omega
  have HQE := Veil.mk hq
  clear hq
  by_cases hlt : j < l.length
  ·have hlt' : (j : Int) < (l.length : Int) := by omega
   obtain ⟨v, hv⟩ : ∃ v, l[j]? = some v := ⟨_, List.getElem?_eq_getElem hlt⟩
   obtain ⟨ga, hga⟩ : ∃ g, ao = some ⟨g, 0, none⟩ := by
    cases ao with
    | none =>
     have h1 := (HNIL.out rfl).1
     rw [h1] at hlt
     exact absurd hlt (by simp)
    | some ad =>
     obtain ⟨g, e, -⟩ := HROW.out ad rfl
     exact ⟨g, by rw [e]⟩
   subst hga
   have hrw : RowV wr (.slice (some ⟨ga, 0, none⟩) l.length cap) l := by obtain ⟨_, _, _, _, _, g4, _⟩ := hs.x; exact g4.row HR.out.1 HR.out.2
   obtain ⟨ao3, cap3, he3, -, -, hc3⟩ := hrw
   injection he3 with he3 _ he4
   subst he3
   obtain ⟨g3, hg3, -, hcs⟩ := hc3 _ rfl
   injection hg3 with hg3
   subst hg3
   obtain ⟨f0, f1, f2⟩ := flatV_at l j v hv
   have c0 := hcs _ _ f0
   have c1 := hcs _ _ f1
   have c2 := hcs _ _ f2
   have HS := Veil.mk (And.intro hs (And.intro hbt (And.intro hbr hsz)))
   clear f0 f1 f2 hcs hc3 he4 hs hbt hbr hsz
   go_upto_region 5 with (fail)
   obtain ⟨vb, hvb⟩ : ∃ vb, wr.heap.size = vb := ⟨_, rfl⟩
   obtain ⟨W2, hW2⟩ : ∃ W2, wr.alloc (.cells #[.int .i64 v.1, .int .i64 v.2.1, .string v.2.2] 28) = W2 := ⟨_, rfl⟩
   have bx := Box.new wr 28 #[.int .i64 v.1, .int .i64 v.2.1, .string v.2.2]
   have bl : Below wr.heap.size wr (wr.alloc (.cells #[.int .i64 v.1, .int .i64 v.2.1, .string v.2.2] 28)) := (Below.refl _ _).alloc (Nat.le_refl _) _
   rw [hW2] at bx bl ⊢
   have h2 := (HS.out.1.excl (E' := (fun k => k = tb \/ k = rb \/ k = vb)) (fun k hk => by rcases hk with h9 | h9 | h9; exact .inl (.inl h9); exact .inl (.inr h9); exact .inr (by omega))).on bl
   rw [hvb] at bx ⊢
   have HB2 := Veil.mk (And.intro (HS.out.2.1.below bl) (And.intro (HS.out.2.2.1.below bl) bx))
   have HZ2 : Veil (W.heap.size <= W2.heap.size /\ W.heap.size <= vb) := ⟨by have := bl.size; have := HS.out.2.2.2; omega⟩
   have HM := Veil.mk (h2.spend HK.out.1 (by show 0 <= f.st + (j : Int); have := HK.out.2.1; omega) (by show f.st + (j : Int) < 4194304; have := HK.out.2.2.1; omega) HK.out.2.2.2.1)
   clear c0 c1 c2 hW2 bl bx h2 hvb HS
   go_upto_region 7 with (go_at_call 90; ((with_reducible refine HM.out.mono ?_); rintro e w3 ⟨rfl, h3, hk3⟩; have HS3 := Veil.mk (And.intro h3 (And.intro (hk3.boxE HB2.out.1 (by decide)) (And.intro (hk3.boxE HB2.out.2.1 (by decide)) (And.intro (hk3.boxE HB2.out.2.2 (by decide)) hk3.bel.size)))); clear h3 hk3))
   obtain ⟨WD, hWD⟩ : ∃ WD, w3.drew = WD := ⟨_, rfl⟩
   have hdr : Below w3.heap.size w3 WD := by rw [<- hWD]; exact (Below.refl _ _).drew
   have e9 : ({ ({ f with st := f.st + (j : Int) } : MF) with st := f.st + (j : Int) + 1 } : MF) = { f with st := f.st + ((j : Int) + 1) } := by show ({ f with st := f.st + (j : Int) + 1 } : MF) = _; rw [Int.add_assoc]
   have HSD : Veil (AS W h A m { f with st := f.st + ((j : Int) + 1) } ts ia b V0 (n + j) ys (fun k => k = tb \/ k = rb \/ k = vb) WD) := ⟨by rw [<- e9]; exact HS3.out.1.on hdr⟩
   have HXtb := Veil.mk (HS3.out.2.1.below hdr)
   have HXrb := Veil.mk (HS3.out.2.2.1.below hdr)
   have HXvb := Veil.mk (HS3.out.2.2.2.1.below hdr)
   have HZD : Veil (W.heap.size <= WD.heap.size) := ⟨by have := HS3.out.2.2.2.2; have := HZ2.out.1; have := hdr.size; omega⟩
   have HWD := Veil.mk hWD
   clear hWD hdr e9 HM HB2 HS3
   have HP9 : Veil (PG WD.heap.size (AB W h A m { f with st := f.st + ((j : Int) + 1) } ts ia b V0 (n + j + 1) ys (fun k => k = tb \/ k = rb \/ k = vb) [(tb, VTy, #[.int .i64 fv.1, .int .i64 fv.2.1, .string fv.2.2]), (rb, VTy, #[.int .i64 0, .int .i64 0, .string ⟨#[]⟩]), (vb, VTy, #[.int .i64 v.1, .int .i64 v.2.1, .string v.2.2])])) := ⟨AB.pg HA.out _ HZD.out (by
    intro q9 hq9
    simp only [List.mem_cons, List.not_mem_nil, or_false] at hq9
    rcases hq9 with rfl | rfl | rfl
    ·exact HXtb.out.lt
    ·exact HXrb.out.lt
    ·exact HXvb.out.lt)⟩
   have HC9 : Veil (∀ w', Below WD.heap.size WD w' -> Calls Tryz.prog 43 #[.pointer (some ⟨m, 0, none⟩), valV fv, valV (3, (q : Int), ⟨#[]⟩), valV v] w' fun e w9 => e = .returned (.tuple #[valV v, .int .i64 0]) /\ AB W h A m { f with st := f.st + ((j : Int) + 1) } ts ia b V0 (n + j + 1) ys (fun k => k = tb \/ k = rb \/ k = vb) [(tb, VTy, #[.int .i64 fv.1, .int .i64 fv.2.1, .string fv.2.2]), (rb, VTy, #[.int .i64 0, .int .i64 0, .string ⟨#[]⟩]), (vb, VTy, #[.int .i64 v.1, .int .i64 v.2.1, .string v.2.2])] (fun k => WD.heap.size <= k /\ k < w'.heap.size) w9 /\ (∀ g cs, WD.heap.size <= g -> Box w' g VTy cs -> Box w9 g VTy cs) /\ w'.heap.size <= w9.heap.size) := ⟨fun w' hb => by
    refine AS.callB HSD.out (fun k hk => by rcases hk with rfl | rfl | rfl; exact HXtb.out.lt; exact HXrb.out.lt; exact HXvb.out.lt) HZD.out (fun q9 hq9 => ?_) hb (fun V1 h1 _ => by rw [HQE.out]; exact HPL.out w' V1 j v hlt hv h1)
    simp only [List.mem_cons, List.not_mem_nil, or_false] at hq9
    rcases hq9 with rfl | rfl | rfl
    ·exact ⟨.inl rfl, by show VTy ∈ kvL; decide, HXtb.out⟩
    ·exact ⟨.inr (.inl rfl), by show VTy ∈ kvL; decide, HXrb.out⟩
    ·exact ⟨.inr (.inr rfl), by show VTy ∈ kvL; decide, HXvb.out⟩⟩
   clear HSD HXrb HZ2
   refine wp_region_chain [qp m 0, qv fv, qi (q : Int), qv (3, (q : Int), ⟨#[]⟩), qv v, qq (.tuple #[valV v, .int .i64 0]), qq (.tuple #[valV v, .int .i64 0]), qv v, qi 0, none, none, qi 0] (BG WD (AB W h A m { f with st := f.st + ((j : Int) + 1) } ts ia b V0 (n + j + 1) ys (fun k => k = tb \/ k = rb \/ k = vb) [(tb, VTy, #[.int .i64 fv.1, .int .i64 fv.2.1, .string fv.2.2]), (rb, VTy, #[.int .i64 0, .int .i64 0, .string ⟨#[]⟩]), (vb, VTy, #[.int .i64 v.1, .int .i64 v.2.1, .string v.2.2])]) v 5 9 10) [some 33, some 34, some 35, some 36, some 37, some 38, some 32, some 39, some 40, some 13, none, some 14] (curV' _ [some 33, some 34, some 35, some 36, some 37, some 38, some 32, some 39, some 40, some 13, none, some 14]) (by kernel_rfl) rfl rfl (puts_cur _ _) (by rw [HWD.out]; exact BG.start) ?_ (by kernel_rfl) ?_
   ·refine SY (fun _ S => ?_) ?_
    ·obtain ⟨⟩ := n12 S.hu
     rw [pin S.ha]
     go_simp
     exact S.kS 0 _ (S.hI.ph.pure 0 _ (by decide))
    refine SY (fun w' S => ?_) ?_
    ·obtain ⟨⟩ := n12 S.hu
     have hz := (S.hI.bwd [1] 5 1 (by kernel_rfl) rfl S.h0)
     have hbl := S.hI.ph.s0 hz
     have hq9 := HXtb.out.below hbl
     have c0 : w'.cell? ⟨tb, 0, none⟩ = some (.int .i64 fv.1) := hq9.at_ 0
     have c1 : w'.cell? ⟨tb, 1, none⟩ = some (.int .i64 fv.2.1) := hq9.at_ 1
     have c2 : w'.cell? ⟨tb, 2, none⟩ = some (.string fv.2.2) := hq9.at_ 2
     clear hq9
     clear hbl hz
     rw [pin S.ha]
     go_simp
     exact S.kS 1 _ (S.hI.ph.pure 1 _ (by decide))
    refine SY (fun _ S => ?_) ?_
    ·obtain ⟨⟩ := n12 S.hu
     rw [pin S.ha]
     go_simp
     exact S.kS 2 _ (S.hI.ph.pure 2 _ (by decide))
    refine SY (fun _ S => ?_) ?_
    ·obtain ⟨⟩ := n12 S.hu
     obtain rfl := S.q 2
     rw [pin S.ha]
     go_simp
     go_at_call 362
     refine (whole_any _ _).mono ?_
     rintro e9 w9 ⟨rfl, hm9⟩
     go_simp
     exact S.kS 3 _ (S.hI.ph.quiet HP9.out 3 _ (by decide) hm9)
    refine SY (fun w' S => ?_) ?_
    ·obtain ⟨⟩ := n12 S.hu
     have hz := (S.hI.bwd [4] 5 4 (by kernel_rfl) rfl S.h0)
     have hbl := S.hI.ph.s0 hz
     have hq9 := HXvb.out.below hbl
     have c0 : w'.cell? ⟨vb, 0, none⟩ = some (.int .i64 v.1) := hq9.at_ 0
     have c1 : w'.cell? ⟨vb, 1, none⟩ = some (.int .i64 v.2.1) := hq9.at_ 1
     have c2 : w'.cell? ⟨vb, 2, none⟩ = some (.string v.2.2) := hq9.at_ 2
     clear hq9
     clear hbl hz
     rw [pin S.ha]
     go_simp
     exact S.kS 4 _ (S.hI.ph.pure 4 _ (by decide))
    refine SY (fun w' S => ?_) ?_
    ·obtain ⟨⟩ := n12 S.hu
     obtain rfl := S.q 0
     obtain rfl := S.q 1
     obtain rfl := S.q 3
     obtain rfl := S.q 4
     have h18 := (S.hI.bwd [5] 10 5 (by kernel_rfl) rfl S.h0)
     have hbl := S.hI.ph.s0 S.h0
     have HX9 := Veil.mk (HC9.out w' hbl)
     clear hbl
     rw [pin S.ha]
     go_simp
     go_at_call 43
     refine HX9.out.mono ?_
     rintro e9 w9 ⟨rfl, hq9, hk9, hs9⟩
     go_simp
     exact S.kS 5 _ (S.hI.ph.call HP9.out (by decide) (by decide) h18 hq9 hk9 hs9 _)
    refine SY (fun _ S => ?_) ?_
    ·obtain ⟨⟩ := n12 S.hu
     obtain rfl := S.q 5
     rw [pin S.ha]
     go_simp
     exact S.kS 6 _ (S.hI.ph.pure 6 _ (by decide))
    refine SY (fun _ S => ?_) ?_
    ·obtain ⟨⟩ := n12 S.hu
     obtain rfl := S.q 6
     rw [pin S.ha]
     go_simp
     exact S.kS 7 _ (S.hI.ph.pure 7 _ (by decide))
    refine SY (fun _ S => ?_) ?_
    ·obtain ⟨⟩ := n12 S.hu
     obtain rfl := S.q 6
     rw [pin S.ha]
     go_simp
     exact S.kS 8 _ (S.hI.ph.pure 8 _ (by decide))
    refine SY (fun _ S => ?_) ?_
    ·obtain ⟨⟩ := n12 S.hu
     have h18 := (S.hI.bwd [9] 10 9 (by kernel_rfl) rfl S.h0)
     rw [pin S.ha]
     go_simp
     exact S.kN 9 _ (S.hI.ph.mk_ HP9.out (by decide) (by decide) h18)
    refine SY (fun w' S => ?_) ?_
    ·obtain ⟨_, _, _, _, _, _, _, _, _, u9⟩ := n12 S.hu
     obtain rfl := S.q 7
     have h13 := (gen_after 5 (by kernel_rfl) S.hp)
     have h17 := gen_after 9 (by kernel_rfl) S.hp
     obtain ⟨g, hg, hlo, hz9, -⟩ := S.hI.ph.b h17
     replace hg : u9 = .pointer (some ⟨g, 0, none⟩) := hg
     subst hg
     have hzb := hz9 S.h0
     have z0 : w'.cell? ⟨g, 0, none⟩ = some (.int .i64 0) := hzb.at_ 0
     have z1 : w'.cell? ⟨g, 1, none⟩ = some (.int .i64 0) := hzb.at_ 1
     have z2 : w'.cell? ⟨g, 2, none⟩ = some (.string ⟨#[]⟩) := hzb.at_ 2
     have q0 := hzb.free 0
     have q1 := hzb.free 1
     have q2 := hzb.free 2
     clear hzb hz9
     rw [pin S.ha]
     go_simp
     exact S.kN 10 undef (S.hI.ph.sto HP9.out (by decide) (by decide) h13 h17 S.h0 rfl _)
    refine SY (fun _ S => ?_) ?_
    ·obtain ⟨⟩ := n12 S.hu
     obtain rfl := S.q 8
     rw [pin S.ha]
     go_simp
     exact S.kS 11 _ (S.hI.ph.pure 11 _ (by decide))
    exact Steps.nil
   ·intro us wE hus dd hD2 hJ
    obtain ⟨_, _, _, _, _, _, _, _, _, p9⟩ := n12 hus
    have hph := hJ.ph
    obtain rfl := hJ.vq 0 hD2
    obtain rfl := hJ.vq 1 hD2
    obtain rfl := hJ.vq 2 hD2
    obtain rfl := hJ.vq 3 hD2
    obtain rfl := hJ.vq 4 hD2
    obtain rfl := hJ.vq 5 hD2
    obtain rfl := hJ.vq 6 hD2
    obtain rfl := hJ.vq 7 hD2
    obtain rfl := hJ.vq 8 hD2
    obtain rfl := hJ.vq 11 hD2
    clear hJ
    obtain ⟨gv, hgv, hgl, -, hgb⟩ := hph.b (hD2 9 (by show 9 < 12; decide))
    replace hgv : p9 = .pointer (some ⟨gv, 0, none⟩) := hgv
    subst hgv
    have hgb := hgb (hD2 10 (by show 10 < 12; decide))
    have hdo := hph.s1 (hD2 5 (by show 5 < 12; decide))
    have hdo := HP9.out.excl _ (fun k => k = gv) _ hdo (fun k hk => .inl ⟨(hD2 9 (by show 9 < 12; decide)), by subst hk; rfl⟩)
    have HQ := Veil.mk (And.intro hdo (And.intro hgb hgl))
    clear hph hD2 hdo hgb hgl HP9 HC9 HWD
    simp only [puts, setAll, List.setIfInBounds_toArray, List.set_cons_zero, List.set_cons_succ]
    have HR7 := Veil.mk (And.intro (HQ.out.1.l _ (List.mem_cons_self ..)) (And.intro (HQ.out.1.l _ (List.mem_cons_of_mem _ (List.mem_cons_self ..))) HQ.out.1.s))
    have hsz9 : W.heap.size <= wE.heap.size := by
     have := HQ.out.2.1.lt
     have := HQ.out.2.2
     have := HZD.out
     omega
    clear HQ HXtb HXvb HZD
    go_wp2
    exact ⟨⟨j + 1, q + 1, by omega, by rw [HQE.out]; omega, by go_num, by go_num, HR7.out.2.2.excl (fun k hk => .inl (.inr (hk.elim (fun h => .inl h) (fun h => .inr (.inl h))))), HR7.out.1, HR7.out.2.1, hsz9⟩, by simp [intOf]; omega⟩
  ·obtain rfl : j = l.length := by omega
   have hlt' : ¬ ((l.length : Int) < (l.length : Int)) := by omega
   have c0 : wr.cell? ⟨tb, 0, none⟩ = some (.int .i64 fv.1) := hbt.at_ 0
   have c1 : wr.cell? ⟨tb, 1, none⟩ = some (.int .i64 fv.2.1) := hbt.at_ 1
   have c2 : wr.cell? ⟨tb, 2, none⟩ = some (.string fv.2.2) := hbt.at_ 2
   have HW9 := Veil.mk (AS.callB (fn := 364) (args := #[.pointer (some ⟨m, 0, none⟩), valV fv, .int .i64 (q : Int)]) (r := .returned (.tuple #[valV fv, .int .i64 0])) (L := [(tb, VTy, #[.int .i64 fv.1, .int .i64 fv.2.1, .string fv.2.2]), (rb, VTy, #[.int .i64 0, .int .i64 0, .string ⟨#[]⟩])]) hs (fun k hk => by rcases hk with rfl | rfl; exact hbt.lt; exact hbr.lt) hsz (fun q9 hq9 => by
    simp only [List.mem_cons, List.not_mem_nil, or_false] at hq9
    rcases hq9 with rfl | rfl
    ·exact ⟨.inl rfl, by show VTy ∈ kvL; decide, hbt⟩
    ·exact ⟨.inr rfl, by show VTy ∈ kvL; decide, hbr⟩) (Below.refl _ _) (fun V1 h1 _ => by rw [HQE.out]; exact HWL.out wr V1 h1))
   clear hs hbt hbr hsz hlt hj HPL HWL
   go_wp2_with (first | (go_at_call 364; ((with_reducible refine HW9.out.mono ?_); rintro e w4 ⟨rfl, hq4, -, -⟩; have HQ4 := Veil.mk (And.intro (hq4.l _ (List.mem_cons_of_mem _ (List.mem_cons_self ..))) hq4.s); clear hq4)) | (go_at_call 362; ((with_reducible refine (whole_any _ _).mono ?_); rintro e w5 ⟨rfl, hb5⟩; have hb45 := blw2 ((Below.refl _ _).alloc (Nat.le_refl _) _) hb5; have HR5 := Veil.mk (And.intro (HQ4.out.1.below hb45) (HQ4.out.2.on hb45)); clear hb5 hb45; have z0 : w5.cell? ⟨rb, 0, none⟩ = some (.int .i64 0) := HR5.out.1.at_ 0; have z1 : w5.cell? ⟨rb, 1, none⟩ = some (.int .i64 0) := HR5.out.1.at_ 1; have z2 : w5.cell? ⟨rb, 2, none⟩ = some (.string ⟨#[]⟩) := HR5.out.1.at_ 2; have q0 := HR5.out.1.free 0; have q1 := HR5.out.1.free 1; have q2 := HR5.out.1.free 2)))
   have hr3 := ((HR5.out.1.put 0 (.int .i64 3)).put 1 (.int .i64 (q : Int))).put 2 (.string ⟨#[]⟩)
   have y0 := hr3.at_ 0
   have y1 := hr3.at_ 1
   have y2 := hr3.at_ 2
   have hp3 := ((HR5.out.2.put HR5.out.1.lab (.inr (.inr rfl)) HLO.out.2 HA.out 0 (.int .i64 3)).put (HR5.out.1.put 0 _).lab (.inr (.inr rfl)) HLO.out.2 HA.out 1 (.int .i64 (q : Int))).put ((HR5.out.1.put 0 _).put 1 _).lab (.inr (.inr rfl)) HLO.out.2 HA.out 2 (.string ⟨#[]⟩)
   have hqn : ((q : Nat) : Int) = (n : Int) + (l.length : Int) := by rw [HQE.out]; omega
   refine bodyPost_ret (v := .tuple #[valV (3, (q : Int), ⟨#[]⟩), .int .i64 0]) (by simp [results, Tryz.results353, go_sem, y0, y1, y2]) rfl ⟨by rw [hqn], hp3.excl (fun k hk => hk.elim)⟩
end
def uh (x : Vt) : Vt := if x.1 = 10 then zV else x
theorem unless_any (x : Vt) (W : World) : Calls Tryz.prog 367 #[valV x] W fun e w' => e = .returned (valV (uh x)) /\ Below W.heap.size W w' := by
 obtain ⟨u, hu⟩ : ∃ u, uh x = u := ⟨_, rfl⟩
 rw [hu]
 obtain ⟨xb, hxb⟩ : ∃ xb, W.heap.size = xb := ⟨_, rfl⟩
 obtain ⟨rb, hrb⟩ : ∃ rb, xb + 1 = rb := ⟨_, rfl⟩
 obtain ⟨W0, hW0⟩ : ∃ W0, ((W.alloc (.cells #[.int .i64 x.1, .int .i64 x.2.1, .string x.2.2] 28)).alloc (.cells #[.int .i64 0, .int .i64 0, .string ⟨#[]⟩] 28)) = W0 := ⟨_, rfl⟩
 have bb : Below W.heap.size W W0 := by rw [<- hW0]; exact (((Below.refl _ _).alloc (Nat.le_refl _) _).alloc (by simp only [World.size_alloc]; omega) _)
 have xxb : Box W0 xb 28 #[.int .i64 x.1, .int .i64 x.2.1, .string x.2.2] := by have h9 := ((Box.new W 28 #[.int .i64 x.1, .int .i64 x.2.1, .string x.2.2]).more (.cells #[.int .i64 0, .int .i64 0, .string ⟨#[]⟩] 28)); rw [hW0, hxb] at h9; exact h9
 have xrb : Box W0 rb 28 #[.int .i64 0, .int .i64 0, .string ⟨#[]⟩] := by have h9 := Box.new (W.alloc (.cells #[.int .i64 x.1, .int .i64 x.2.1, .string x.2.2] 28)) 28 #[.int .i64 0, .int .i64 0, .string ⟨#[]⟩]; rw [hW0, show (W.alloc (.cells #[.int .i64 x.1, .int .i64 x.2.1, .string x.2.2] 28)).heap.size = rb from by simp only [World.size_alloc]; omega] at h9; exact h9
 have HW0 := Veil.mk (And.intro hW0 (And.intro hxb (hrb)))
 have HBB := Veil.mk (And.intro bb (And.intro xxb (xrb)))
 have HLO : Veil (W.heap.size <= xb /\ W.heap.size <= rb) := ⟨by omega⟩
 clear hW0 bb hxb xxb hrb xrb
 have c0 : W0.cell? ⟨xb, 0, none⟩ = some (.int .i64 x.1) := HBB.out.2.1.at_ 0
 have c1 : W0.cell? ⟨xb, 1, none⟩ = some (.int .i64 x.2.1) := HBB.out.2.1.at_ 1
 have c2 : W0.cell? ⟨xb, 2, none⟩ = some (.string x.2.2) := HBB.out.2.1.at_ 2
 have z0 : W0.cell? ⟨rb, 0, none⟩ = some (.int .i64 0) := HBB.out.2.2.at_ 0; have z1 : W0.cell? ⟨rb, 1, none⟩ = some (.int .i64 0) := HBB.out.2.2.at_ 1; have z2 : W0.cell? ⟨rb, 2, none⟩ = some (.string ⟨#[]⟩) := HBB.out.2.2.at_ 2; have q0 := HBB.out.2.2.free 0; have q1 := HBB.out.2.2.free 1; have q2 := HBB.out.2.2.free 2
 have hrb : W.heap.size <= rb := HLO.out.2
 go_enter Tryz.func367, Tryz.ntmps367
 go_upto_region 1 with (fail)
 rw [HW0.out.1, HW0.out.2.1, HW0.out.2.2]
 by_cases hx : x.1 = 10
 ·have hk : u = zV := by rw [<- hu]; exact if_pos hx
  subst hk
  clear hu
  go_wp2
  have hr3 := ((HBB.out.2.2.put 0 (.int .i64 0)).put 1 (.int .i64 0)).put 2 (.string ⟨#[]⟩)
  have y0 := hr3.at_ 0
  have y1 := hr3.at_ 1
  have y2 := hr3.at_ 2
  exact bodyPost_ret (v := valV zV) (by simp [results, Tryz.results367, go_sem, y0, y1, y2]) rfl ⟨rfl, ((HBB.out.1.setCell (p := ⟨rb, 0, none⟩) hrb _).setCell (p := ⟨rb, 1, none⟩) hrb _).setCell (p := ⟨rb, 2, none⟩) hrb _⟩
 ·have hk : u = x := by rw [<- hu]; exact if_neg hx
  subst hk
  clear hu
  go_wp2
  have hr3 := ((HBB.out.2.2.put 0 (.int .i64 u.1)).put 1 (.int .i64 u.2.1)).put 2 (.string u.2.2)
  have y0 := hr3.at_ 0
  have y1 := hr3.at_ 1
  have y2 := hr3.at_ 2
  exact bodyPost_ret (v := valV u) (by simp [results, Tryz.results367, go_sem, y0, y1, y2]) rfl ⟨rfl, ((HBB.out.1.setCell (p := ⟨rb, 0, none⟩) hrb _).setCell (p := ⟨rb, 1, none⟩) hrb _).setCell (p := ⟨rb, 2, none⟩) hrb _⟩
section
variable {W w w' w0 : World} {h A m ia b n n' : Nat} {f f2 : MF} {ts : List TO} {V0 E K : Nat -> Prop} {xs ys : Nat -> Vt} {t2 : TO}
theorem AS.pop (H : AS W h A m f ts ia b V0 (n + 1) xs (fun _ => False) W) (hia : ia < ts.length) (hn : n <= 10000) :
  Calls Tryz.prog 354 #[.pointer (some ⟨m, 0, none⟩), .pointer (some ⟨b, 0, none⟩)] W fun e w' => e = .returned (.tuple #[valV (uh (xs n)), .int .i64 0]) /\ AS W h A m f ts ia b V0 n xs (fun _ => False) w' := by
 have HA : Veil (A <= W.heap.size) := ⟨H.lt⟩
 obtain ⟨x, hx⟩ : ∃ x, xs n = x := ⟨_, rfl⟩
 rw [hx]
 obtain ⟨u, hu⟩ : ∃ u, uh x = u := ⟨_, rfl⟩
 have HUH : Veil (∀ w, Calls Tryz.prog 367 #[valV x] w fun e w' => e = .returned (valV u) /\ Below w.heap.size w w') := ⟨fun w => by rw [<- hu]; exact unless_any x w⟩
 rw [hu]
 clear hu
 obtain ⟨rb, hrb⟩ : ∃ rb, W.heap.size = rb := ⟨_, rfl⟩
 obtain ⟨W0, hW0⟩ : ∃ W0, (W.alloc (.cells #[.int .i64 0, .int .i64 0, .string ⟨#[]⟩] 28)) = W0 := ⟨_, rfl⟩
 have bb : Below W.heap.size W W0 := by rw [<- hW0]; exact ((Below.refl _ _).alloc (Nat.le_refl _) _)
 have xrb : Box W0 rb 28 #[.int .i64 0, .int .i64 0, .string ⟨#[]⟩] := by have h9 := Box.new W 28 #[.int .i64 0, .int .i64 0, .string ⟨#[]⟩]; rw [hW0, hrb] at h9; exact h9
 have HW0 := Veil.mk (And.intro hW0 (hrb))
 have HBB := Veil.mk (And.intro bb (xrb))
 have HLO : Veil (W.heap.size <= rb) := ⟨by omega⟩
 clear hW0 bb hrb xrb
 have HS0 := Veil.mk (((H.excl (E' := fun k => W.heap.size <= k) (fun k hk => .inr hk)).on HBB.out.1).excl (E' := fun k => k = rb) (fun k hk => .inl (by rw [hk]; exact HLO.out)))
 have HC : Veil (∃ g cap, W0.cell? ⟨b, 2, none⟩ = some (.bool false) /\ W0.cell? ⟨b, 4, none⟩ = some (.slice (some ⟨g, 0, none⟩) (n + 1) cap) /\ W0.cell? ⟨g, n * 3, none⟩ = some (.int .i64 x.1) /\ W0.cell? ⟨g, n * 3 + 1, none⟩ = some (.int .i64 x.2.1) /\ W0.cell? ⟨g, n * 3 + 2, none⟩ = some (.string x.2.2)) := ⟨by
  obtain ⟨ev, xs0, h1, h2, h3, -⟩ := H.x
  have hbx := (h1.mem_b (List.mem_of_getElem? (List.getElem?_set_self hia)) rfl).below HBB.out.1
  rcases h2.on HBB.out.1 with ⟨-, h9⟩ | ⟨g, cap, e, h9⟩
  ·omega
  ·obtain ⟨a0, a1, a2⟩ := h9.cell n (Nat.lt_of_lt_of_le (Nat.lt_succ_self n) h9.le)
   rw [h3 n (by omega), hx] at a0 a1 a2
   exact ⟨g, cap, hbx.at_ 2, by rw [<- e]; exact hbx.at_ 4, a0, a1, a2⟩⟩
 obtain ⟨g, cap, d2, d4, c0, c1, c2⟩ := HC.out
 have HDL : Veil (∀ w9 V1 E, AS w9 h A m f ts ia b V1 (n + 1) xs E w9 -> (∀ k, E k -> k < w9.heap.size) -> Calls Tryz.prog 72 #[.pointer (some ⟨b, 0, none⟩), valV (7, 0, lenB), valV (3, (n : Int), ⟨#[]⟩), .int .i64 1] w9 fun e w' => e = .returned (.bool true) /\ AS w9 h A m f ts ia b V1 n (rz (n + 1) xs) E w') := ⟨fun w9 V1 E hs hE => hs.deflen hia hE (Nat.le_refl _) n hn⟩
 clear H HC hia hx
 go_enter Tryz.func354, Tryz.ntmps354
 go_upto_region 1 with (fail)
 rw [HW0.out.1, HW0.out.2]
 have hn0 : (0 : Int) <= (n : Int) := by omega
 have hn1 : (n : Int) <= 10000 := by omega
 go_upto_region 7 with (fail)
 obtain ⟨vb, hvb⟩ : ∃ vb, W0.heap.size = vb := ⟨_, rfl⟩
 obtain ⟨W2, hW2⟩ : ∃ W2, W0.alloc (.cells #[.int .i64 x.1, .int .i64 x.2.1, .string x.2.2] 28) = W2 := ⟨_, rfl⟩
 have bx := Box.new W0 28 #[.int .i64 x.1, .int .i64 x.2.1, .string x.2.2]
 have bl : Below W0.heap.size W0 (W0.alloc (.cells #[.int .i64 x.1, .int .i64 x.2.1, .string x.2.2] 28)) := (Below.refl _ _).alloc (Nat.le_refl _) _
 rw [hW2] at bx bl ⊢
 rw [hvb] at bx ⊢
 have HS2 := Veil.mk ((HS0.out.excl (E' := fun k => k = rb \/ k = vb) (fun k hk => hk.elim (fun h => .inl h) (fun h => .inr (by omega)))).on bl)
 have HB2 := Veil.mk (And.intro (HBB.out.2.below bl) (And.intro bx (HBB.out.1.trans (bl.mono HBB.out.1.size))))
 clear c0 c1 c2 d2 d4 hW2 bl bx hvb HS0 HBB HW0
 have HDF : Veil (∀ w', Below W2.heap.size W2 w' -> Calls Tryz.prog 72 #[.pointer (some ⟨b, 0, none⟩), valV (7, 0, lenB), valV (3, (n : Int), ⟨#[]⟩), .int .i64 1] w' fun e w9 => e = .returned (.bool true) /\ AB W h A m f ts ia b V0 n (rz (n + 1) xs) (fun k => k = rb \/ k = vb) [(rb, VTy, #[.int .i64 0, .int .i64 0, .string ⟨#[]⟩]), (vb, VTy, #[.int .i64 x.1, .int .i64 x.2.1, .string x.2.2])] (fun k => W2.heap.size <= k /\ k < w'.heap.size) w9 /\ (∀ g cs, W2.heap.size <= g -> Box w' g VTy cs -> Box w9 g VTy cs) /\ w'.heap.size <= w9.heap.size) := ⟨fun w' hb => by
  refine AS.callB HS2.out (fun k hk => by rcases hk with rfl | rfl; exact HB2.out.1.lt; exact HB2.out.2.1.lt) HB2.out.2.2.size (fun q9 hq9 => ?_) hb (fun V1 h1 _ => HDL.out w' V1 _ h1 (fun k hk => hk.elim))
  simp only [List.mem_cons, List.not_mem_nil, or_false] at hq9
  rcases hq9 with rfl | rfl
  ·exact ⟨.inl rfl, by show VTy ∈ kvL; decide, HB2.out.1⟩
  ·exact ⟨.inr rfl, by show VTy ∈ kvL; decide, HB2.out.2.1⟩⟩
 clear HS2 HDL
 go_upto_region 8 with (first | (go_at_call 44; ((with_reducible refine (val_len2 _).mono ?_); rintro e w3 ⟨rfl, hb3⟩)) | (go_at_call 362; ((with_reducible refine (whole_any _ _).mono ?_); rintro e w4 ⟨rfl, hb4⟩; have hb24 := blw2 hb3 hb4; have HDF4 := Veil.mk (HDF.out w4 hb24); clear hb3 hb4 hb24)) | (go_at_call 72; ((with_reducible refine HDF4.out.mono ?_); rintro e w5 ⟨rfl, hq5, -, -⟩)))
 have HR5 := Veil.mk (And.intro (hq5.l _ (List.mem_cons_self ..)) (And.intro (hq5.l _ (List.mem_cons_of_mem _ (List.mem_cons_self ..))) hq5.s))
 clear hq5 HDF HDF4
 have c0 : w5.cell? ⟨vb, 0, none⟩ = some (.int .i64 x.1) := HR5.out.2.1.at_ 0
 have c1 : w5.cell? ⟨vb, 1, none⟩ = some (.int .i64 x.2.1) := HR5.out.2.1.at_ 1
 have c2 : w5.cell? ⟨vb, 2, none⟩ = some (.string x.2.2) := HR5.out.2.1.at_ 2
 go_wp2_with (go_at_call 367; ((with_reducible refine (HUH.out _).mono ?_); rintro e w6 ⟨rfl, hb6⟩; have HR6 := Veil.mk (And.intro (HR5.out.1.below hb6) (HR5.out.2.2.on hb6)); clear hb6; have z0 : w6.cell? ⟨rb, 0, none⟩ = some (.int .i64 0) := HR6.out.1.at_ 0; have z1 : w6.cell? ⟨rb, 1, none⟩ = some (.int .i64 0) := HR6.out.1.at_ 1; have z2 : w6.cell? ⟨rb, 2, none⟩ = some (.string ⟨#[]⟩) := HR6.out.1.at_ 2; have q0 := HR6.out.1.free 0; have q1 := HR6.out.1.free 1; have q2 := HR6.out.1.free 2))
 have hr3 := ((HR6.out.1.put 0 (.int .i64 u.1)).put 1 (.int .i64 u.2.1)).put 2 (.string u.2.2)
 have y0 := hr3.at_ 0
 have y1 := hr3.at_ 1
 have y2 := hr3.at_ 2
 have hp3 := ((HR6.out.2.put HR6.out.1.lab (.inr (.inl rfl)) HLO.out HA.out 0 (.int .i64 u.1)).put (HR6.out.1.put 0 _).lab (.inr (.inl rfl)) HLO.out HA.out 1 (.int .i64 u.2.1)).put ((HR6.out.1.put 0 _).put 1 _).lab (.inr (.inl rfl)) HLO.out HA.out 2 (.string u.2.2)
 exact bodyPost_ret (v := .tuple #[valV u, .int .i64 0]) (by simp [results, Tryz.results354, go_sem, y0, y1, y2]) rfl ⟨rfl, (hp3.excl (fun k hk => hk.elim)).congr (fun j hj => by show (if j < n + 1 then _ else _) = _; rw [if_pos (by omega)])⟩
end
section
variable {W w w' w0 : World} {h A m ia b n n' : Nat} {f f2 : MF} {ts : List TO} {V0 E K : Nat -> Prop} {xs ys : Nat -> Vt} {L : List (Nat × TypeId × Array Value)}
theorem AS.callC (H : AS W h A m f ts ia b V0 n xs K w0) (hK : ∀ k, K k -> k < w0.heap.size) (hsz : W.heap.size <= w0.heap.size) (hL : ∀ q ∈ L, K q.1 /\ q.2.1 ∈ kvL /\ Box w0 q.1 q.2.1 q.2.2) (hb : Below w0.heap.size w0 w') {fn : Nat} {args : Array Value} {r : Ending}
  (HC : ∀ V1, AS w' h A m f ts ia b V1 n xs (fun _ => False) w' -> (∀ k, V1 k -> V0 k \/ W.heap.size <= k) -> Calls Tryz.prog fn args w' fun e w9 => e = r /\ AS w' h A m f2 ts ia b V1 n' ys (fun _ => False) w9) :
  Calls Tryz.prog fn args w' fun e w9 => e = r /\ AB W h A m f2 ts ia b V0 n' ys K L (fun _ => False) w9 := by
 have hs := hb.size
 have H1 := H.on hb
 obtain ⟨V1, hr, hv⟩ := H1.rebase
 refine (HC V1 (hr.excl (fun k hk => hk.elim)) (fun k hk => (hv k hk).1)).mono ?_
 rintro e w9 ⟨he, hq⟩
 obtain ⟨ev, xs0, q1, q2, q3, q4, q5⟩ := hq.x
 have hq2 : AS w' h A m f2 ts ia b V1 n' ys K w9 := ⟨ev, xs0, q1, q2, q3, q4, fun k hk => ⟨(q5 k hk).1, fun h9 => by
  rcases (q5 k hk).1 with h8 | h8
  ·exact (hv k h8).2.1 h9
  ·have := hK k h9
   omega⟩⟩
 refine ⟨he, ⟨(H1.trans hq2 (fun k hk => (hv k hk).1) (Nat.le_trans hsz hs)).excl (fun k hk => .inl (hk.elim (fun h => h.elim) (fun h => h))), fun q hq => ?_⟩⟩
 obtain ⟨a1, a2, a3⟩ := hL q hq
 exact q4.box (a3.below hb) a2 (fun h9 => (hv q.1 h9).2.1 a1)
theorem AS.doPush (H : AS W h A m f ts ia b V0 n xs (fun _ => False) W) (hia : ia < ts.length) (fo : Nat) (tgt x : Vt) (en : Int) (args : Value)
  (HIN : Veil (∀ w9 V1, Below W.heap.size W w9 -> AS w9 h A m f ts ia b V1 n xs (fun _ => False) w9 -> (∀ k, V1 k -> V0 k \/ W.heap.size <= k) -> Calls Tryz.prog 353 #[.pointer (some ⟨m, 0, none⟩), valV (9, (ia : Int) + 1, ⟨#[]⟩), .pointer (some ⟨b, 0, none⟩), args] w9 fun e w' => e = .returned (.tuple #[valV x, .int .i64 en]) /\ AS w9 h A m f2 ts ia b V1 n' ys (fun _ => False) w')) :
  Calls Tryz.prog 348 #[.pointer (some ⟨m, 0, none⟩), .int .i64 154, callV fo (9, (ia : Int) + 1, ⟨#[]⟩) args tgt] W fun e w' => e = .returned (.tuple #[valV x, .int .i64 en]) /\ AS W h A m f2 ts ia b V0 n' ys (fun _ => False) w' := by
 obtain ⟨fv, hfv⟩ : ∃ fv : Vt, ((9, (ia : Int) + 1, ⟨#[]⟩) : Vt) = fv := ⟨_, rfl⟩
 have HA : Veil (A <= W.heap.size) := ⟨H.lt⟩
 obtain ⟨ev0, xs00, hm0, -⟩ := H.x
 have hat : (ts.set ia (TO.arr b 3 ev0))[ia]? = some (TO.arr b 3 ev0) := List.getElem?_set_self hia
 have HBX : Veil (Box W b 63 (objC 1 3 false (.pointer none) ev0)) := ⟨hm0.mem_b (List.mem_of_getElem? hat) rfl⟩
 rw [hfv] at HIN
 obtain ⟨cb, hcb⟩ : ∃ cb, W.heap.size = cb := ⟨_, rfl⟩
 obtain ⟨rb, hrb⟩ : ∃ rb, cb + 1 = rb := ⟨_, rfl⟩
 obtain ⟨W0, hW0⟩ : ∃ W0, ((W.alloc (.cells #[.pointer (some ⟨fo, 0, none⟩), .int .i64 fv.1, .int .i64 fv.2.1, .string fv.2.2, args, .int .i64 tgt.1, .int .i64 tgt.2.1, .string tgt.2.2] CTy)).alloc (.cells #[.int .i64 0, .int .i64 0, .string ⟨#[]⟩] VTy)) = W0 := ⟨_, rfl⟩
 have bb : Below W.heap.size W W0 := by rw [<- hW0]; exact (((Below.refl _ _).alloc (Nat.le_refl _) _).alloc (by simp only [World.size_alloc]; omega) _)
 have xcb : Box W0 cb CTy #[.pointer (some ⟨fo, 0, none⟩), .int .i64 fv.1, .int .i64 fv.2.1, .string fv.2.2, args, .int .i64 tgt.1, .int .i64 tgt.2.1, .string tgt.2.2] := by have h9 := ((Box.new W CTy #[.pointer (some ⟨fo, 0, none⟩), .int .i64 fv.1, .int .i64 fv.2.1, .string fv.2.2, args, .int .i64 tgt.1, .int .i64 tgt.2.1, .string tgt.2.2]).more (.cells #[.int .i64 0, .int .i64 0, .string ⟨#[]⟩] VTy)); rw [hW0, hcb] at h9; exact h9
 have xrb : Box W0 rb VTy #[.int .i64 0, .int .i64 0, .string ⟨#[]⟩] := by have h9 := Box.new (W.alloc (.cells #[.pointer (some ⟨fo, 0, none⟩), .int .i64 fv.1, .int .i64 fv.2.1, .string fv.2.2, args, .int .i64 tgt.1, .int .i64 tgt.2.1, .string tgt.2.2] CTy)) VTy #[.int .i64 0, .int .i64 0, .string ⟨#[]⟩]; rw [hW0, show (W.alloc (.cells #[.pointer (some ⟨fo, 0, none⟩), .int .i64 fv.1, .int .i64 fv.2.1, .string fv.2.2, args, .int .i64 tgt.1, .int .i64 tgt.2.1, .string tgt.2.2] CTy)).heap.size = rb from by simp only [World.size_alloc]; omega] at h9; exact h9
 have HW0 := Veil.mk (And.intro hW0 (And.intro hcb (hrb)))
 have HBB := Veil.mk (And.intro bb (And.intro xcb (xrb)))
 have HLO : Veil (W.heap.size <= cb /\ W.heap.size <= rb) := ⟨by omega⟩
 clear hW0 bb hcb xcb hrb xrb
 have HS0 := Veil.mk (((H.excl (E' := fun k => W.heap.size <= k) (fun k hk => .inr hk)).on HBB.out.1).excl (E' := fun k => k = rb) (fun k hk => .inl (by rw [hk]; exact HLO.out.2)))
 have HOF : Veil (∀ w9, Below W.heap.size W w9 -> Calls Tryz.prog 14 #[.pointer (some ⟨h, 0, none⟩), valV fv] w9 fun e w' => e = .returned (.pointer (some ⟨b, 0, none⟩)) /\ Below w9.heap.size w9 w') := ⟨fun w9 hb => by rw [<- hfv]; exact (hm0.on hb).of_at hat rfl ⟨#[]⟩⟩
 have HCM : Veil (∀ w9, Below W.heap.size W w9 -> w9.cell? ⟨m, 0, none⟩ = some (.pointer (some ⟨h, 0, none⟩))) := ⟨fun w9 hb => (hm0.on hb).mm.mb.at_ 0⟩
 rw [hfv]
 clear H hfv hm0 hat hia
 go_enter Tryz.func348, Tryz.ntmps348
 go_upto_region 1 with (fail)
 rw [HW0.out.1, HW0.out.2.1, HW0.out.2.2]
 go_upto_region 14 with (fail)
 obtain ⟨WD, hWD⟩ : ∃ WD, W0.drew = WD := ⟨_, rfl⟩
 have HBF : Veil (Below W.heap.size W WD) := ⟨by rw [<- hWD]; exact HBB.out.1.drew⟩
 have HXcb : Veil (Box WD cb CTy #[.pointer (some ⟨fo, 0, none⟩), .int .i64 fv.1, .int .i64 fv.2.1, .string fv.2.2, args, .int .i64 tgt.1, .int .i64 tgt.2.1, .string tgt.2.2]) := ⟨by rw [<- hWD]; exact HBB.out.2.1.drew⟩
 have HXrb : Veil (Box WD rb VTy #[.int .i64 0, .int .i64 0, .string ⟨#[]⟩]) := ⟨by rw [<- hWD]; exact HBB.out.2.2.drew⟩
 have HWD := Veil.mk hWD
 clear hWD HBB
 have HC0 : Veil (WD.cell? ⟨m, 0, none⟩ = some (.pointer (some ⟨h, 0, none⟩))) := ⟨HCM.out WD HBF.out⟩
 clear HW0
 have hDZ : ∀ z : BW W0, Below WD.heap.size WD z.w := fun z => by rw [<- HWD.out]; exact ⟨z.h.1, z.h.2, z.h.3, z.h.4, z.h.5⟩
 have c0_3 := fun z : BW W0 => cellAt (hDZ z) (HC0.out)
 have c1_5 : ∀ z : BW W0, z.w.cell? ⟨cb, 1, none⟩ = some (.int .i64 fv.1) := fun z => cellAt (hDZ z) (HXcb.out.at_ 1)
 have c2_5 : ∀ z : BW W0, z.w.cell? ⟨cb, 2, none⟩ = some (.int .i64 fv.2.1) := fun z => cellAt (hDZ z) (HXcb.out.at_ 2)
 have c3_5 : ∀ z : BW W0, z.w.cell? ⟨cb, 3, none⟩ = some (.string fv.2.2) := fun z => cellAt (hDZ z) (HXcb.out.at_ 3)
 have hNE := BW.ne W0
 refine wp_region_below (by kernel_rfl) (by kernel_rfl) ?_
 repeat (go_big_quiet_step ((go_at_call 14; exact BW.on _ (HOF.out _ (blw2 (HBF.out) (hDZ _))))))
 refine wpQuiet_nil ?_
 rintro _ ⟨z, rfl⟩
 have HQ := Veil.mk (hDZ z)
 obtain ⟨wE, hE2⟩ : ∃ wE, z.w = wE := ⟨_, rfl⟩
 rw [hE2] at HQ ⊢
 clear c0_3 c1_5 c2_5 c3_5 hDZ hE2 z hNE
 have hbE := HBF.out.trans (HQ.out.mono HBF.out.size)
 have bcb := HXcb.out.below HQ.out
 have brb := HXrb.out.below HQ.out
 have d0 : wE.cell? ⟨b, 0, none⟩ = some (.int .i64 1) := (HBX.out.below hbE).at_ 0
 have c1 : wE.cell? ⟨cb, 1, none⟩ = some (.int .i64 fv.1) := bcb.at_ 1
 have c2 : wE.cell? ⟨cb, 2, none⟩ = some (.int .i64 fv.2.1) := bcb.at_ 2
 have c3 : wE.cell? ⟨cb, 3, none⟩ = some (.string fv.2.2) := bcb.at_ 3
 have c4 : wE.cell? ⟨cb, 4, none⟩ = some (args) := bcb.at_ 4
 have hsE : AS W h A m f ts ia b V0 n xs (fun k => k = rb) wE := (by rw [<- HWD.out]; exact HS0.out.on (Below.refl _ _).drew : AS W h A m f ts ia b V0 n xs (fun k => k = rb) WD).on HQ.out
 have HWC := Veil.mk (AS.callC (fn := 353) (args := #[.pointer (some ⟨m, 0, none⟩), valV fv, .pointer (some ⟨b, 0, none⟩), args]) (r := .returned (.tuple #[valV x, .int .i64 en])) (L := [(rb, VTy, #[.int .i64 0, .int .i64 0, .string ⟨#[]⟩])]) hsE (fun k hk => by rw [hk]; exact brb.lt) hbE.size (fun q9 hq9 => by
  simp only [List.mem_cons, List.not_mem_nil, or_false] at hq9
  rcases hq9 with rfl
  exact ⟨rfl, by show VTy ∈ kvL; decide, brb⟩) (Below.refl _ _) (fun V1 h1 h2 => HIN.out wE V1 hbE h1 h2))
 clear hbE bcb brb hsE HQ HC0 HWD HOF HCM HBX HS0 HXcb HXrb
 go_wp2_with (go_at_call 353; ((with_reducible refine HWC.out.mono ?_); rintro e w6 ⟨rfl, hq6⟩; have HR6 := Veil.mk (And.intro (hq6.l _ (List.mem_cons_self ..)) hq6.s); clear hq6; have z0 : w6.cell? ⟨rb, 0, none⟩ = some (.int .i64 0) := HR6.out.1.at_ 0; have z1 : w6.cell? ⟨rb, 1, none⟩ = some (.int .i64 0) := HR6.out.1.at_ 1; have z2 : w6.cell? ⟨rb, 2, none⟩ = some (.string ⟨#[]⟩) := HR6.out.1.at_ 2; have q0 := HR6.out.1.free 0; have q1 := HR6.out.1.free 1; have q2 := HR6.out.1.free 2))
 have hr3 := ((HR6.out.1.put 0 (.int .i64 x.1)).put 1 (.int .i64 x.2.1)).put 2 (.string x.2.2)
 have y0 := hr3.at_ 0
 have y1 := hr3.at_ 1
 have y2 := hr3.at_ 2
 have hp3 := ((HR6.out.2.put HR6.out.1.lab (.inr rfl) HLO.out.2 HA.out 0 (.int .i64 x.1)).put (HR6.out.1.put 0 _).lab (.inr rfl) HLO.out.2 HA.out 1 (.int .i64 x.2.1)).put ((HR6.out.1.put 0 _).put 1 _).lab (.inr rfl) HLO.out.2 HA.out 2 (.string x.2.2)
 exact bodyPost_ret (v := (.tuple #[valV x, .int .i64 en])) (by simp [results, Tryz.results348, go_sem, y0, y1, y2]) rfl ⟨rfl, hp3.excl (fun k hk => hk.elim)⟩
theorem AS.doPop (H : AS W h A m f ts ia b V0 n xs (fun _ => False) W) (hia : ia < ts.length) (fo : Nat) (tgt x : Vt) (en : Int) (args : Value)
  (HIN : Veil (∀ w9 V1, Below W.heap.size W w9 -> AS w9 h A m f ts ia b V1 n xs (fun _ => False) w9 -> (∀ k, V1 k -> V0 k \/ W.heap.size <= k) -> Calls Tryz.prog 354 #[.pointer (some ⟨m, 0, none⟩), .pointer (some ⟨b, 0, none⟩)] w9 fun e w' => e = .returned (.tuple #[valV x, .int .i64 en]) /\ AS w9 h A m f2 ts ia b V1 n' ys (fun _ => False) w')) :
  Calls Tryz.prog 348 #[.pointer (some ⟨m, 0, none⟩), .int .i64 155, callV fo (9, (ia : Int) + 1, ⟨#[]⟩) args tgt] W fun e w' => e = .returned (.tuple #[valV x, .int .i64 en]) /\ AS W h A m f2 ts ia b V0 n' ys (fun _ => False) w' := by
 obtain ⟨fv, hfv⟩ : ∃ fv : Vt, ((9, (ia : Int) + 1, ⟨#[]⟩) : Vt) = fv := ⟨_, rfl⟩
 have HA : Veil (A <= W.heap.size) := ⟨H.lt⟩
 obtain ⟨ev0, xs00, hm0, -⟩ := H.x
 have hat : (ts.set ia (TO.arr b 3 ev0))[ia]? = some (TO.arr b 3 ev0) := List.getElem?_set_self hia
 have HBX : Veil (Box W b 63 (objC 1 3 false (.pointer none) ev0)) := ⟨hm0.mem_b (List.mem_of_getElem? hat) rfl⟩
 obtain ⟨cb, hcb⟩ : ∃ cb, W.heap.size = cb := ⟨_, rfl⟩
 obtain ⟨rb, hrb⟩ : ∃ rb, cb + 1 = rb := ⟨_, rfl⟩
 obtain ⟨W0, hW0⟩ : ∃ W0, ((W.alloc (.cells #[.pointer (some ⟨fo, 0, none⟩), .int .i64 fv.1, .int .i64 fv.2.1, .string fv.2.2, args, .int .i64 tgt.1, .int .i64 tgt.2.1, .string tgt.2.2] CTy)).alloc (.cells #[.int .i64 0, .int .i64 0, .string ⟨#[]⟩] VTy)) = W0 := ⟨_, rfl⟩
 have bb : Below W.heap.size W W0 := by rw [<- hW0]; exact (((Below.refl _ _).alloc (Nat.le_refl _) _).alloc (by simp only [World.size_alloc]; omega) _)
 have xcb : Box W0 cb CTy #[.pointer (some ⟨fo, 0, none⟩), .int .i64 fv.1, .int .i64 fv.2.1, .string fv.2.2, args, .int .i64 tgt.1, .int .i64 tgt.2.1, .string tgt.2.2] := by have h9 := ((Box.new W CTy #[.pointer (some ⟨fo, 0, none⟩), .int .i64 fv.1, .int .i64 fv.2.1, .string fv.2.2, args, .int .i64 tgt.1, .int .i64 tgt.2.1, .string tgt.2.2]).more (.cells #[.int .i64 0, .int .i64 0, .string ⟨#[]⟩] VTy)); rw [hW0, hcb] at h9; exact h9
 have xrb : Box W0 rb VTy #[.int .i64 0, .int .i64 0, .string ⟨#[]⟩] := by have h9 := Box.new (W.alloc (.cells #[.pointer (some ⟨fo, 0, none⟩), .int .i64 fv.1, .int .i64 fv.2.1, .string fv.2.2, args, .int .i64 tgt.1, .int .i64 tgt.2.1, .string tgt.2.2] CTy)) VTy #[.int .i64 0, .int .i64 0, .string ⟨#[]⟩]; rw [hW0, show (W.alloc (.cells #[.pointer (some ⟨fo, 0, none⟩), .int .i64 fv.1, .int .i64 fv.2.1, .string fv.2.2, args, .int .i64 tgt.1, .int .i64 tgt.2.1, .string tgt.2.2] CTy)).heap.size = rb from by simp only [World.size_alloc]; omega] at h9; exact h9
 have HW0 := Veil.mk (And.intro hW0 (And.intro hcb (hrb)))
 have HBB := Veil.mk (And.intro bb (And.intro xcb (xrb)))
 have HLO : Veil (W.heap.size <= cb /\ W.heap.size <= rb) := ⟨by omega⟩
 clear hW0 bb hcb xcb hrb xrb
 have HS0 := Veil.mk (((H.excl (E' := fun k => W.heap.size <= k) (fun k hk => .inr hk)).on HBB.out.1).excl (E' := fun k => k = rb) (fun k hk => .inl (by rw [hk]; exact HLO.out.2)))
 have HOF : Veil (∀ w9, Below W.heap.size W w9 -> Calls Tryz.prog 14 #[.pointer (some ⟨h, 0, none⟩), valV fv] w9 fun e w' => e = .returned (.pointer (some ⟨b, 0, none⟩)) /\ Below w9.heap.size w9 w') := ⟨fun w9 hb => by rw [<- hfv]; exact (hm0.on hb).of_at hat rfl ⟨#[]⟩⟩
 have HCM : Veil (∀ w9, Below W.heap.size W w9 -> w9.cell? ⟨m, 0, none⟩ = some (.pointer (some ⟨h, 0, none⟩))) := ⟨fun w9 hb => (hm0.on hb).mm.mb.at_ 0⟩
 rw [hfv]
 clear H hfv hm0 hat hia
 go_enter Tryz.func348, Tryz.ntmps348
 go_upto_region 1 with (fail)
 rw [HW0.out.1, HW0.out.2.1, HW0.out.2.2]
 go_upto_region 14 with (fail)
 obtain ⟨WD, hWD⟩ : ∃ WD, W0.drew = WD := ⟨_, rfl⟩
 have HBF : Veil (Below W.heap.size W WD) := ⟨by rw [<- hWD]; exact HBB.out.1.drew⟩
 have HXcb : Veil (Box WD cb CTy #[.pointer (some ⟨fo, 0, none⟩), .int .i64 fv.1, .int .i64 fv.2.1, .string fv.2.2, args, .int .i64 tgt.1, .int .i64 tgt.2.1, .string tgt.2.2]) := ⟨by rw [<- hWD]; exact HBB.out.2.1.drew⟩
 have HXrb : Veil (Box WD rb VTy #[.int .i64 0, .int .i64 0, .string ⟨#[]⟩]) := ⟨by rw [<- hWD]; exact HBB.out.2.2.drew⟩
 have HWD := Veil.mk hWD
 clear hWD HBB
 have HC0 : Veil (WD.cell? ⟨m, 0, none⟩ = some (.pointer (some ⟨h, 0, none⟩))) := ⟨HCM.out WD HBF.out⟩
 clear HW0
 have hDZ : ∀ z : BW W0, Below WD.heap.size WD z.w := fun z => by rw [<- HWD.out]; exact ⟨z.h.1, z.h.2, z.h.3, z.h.4, z.h.5⟩
 have c0_3 := fun z : BW W0 => cellAt (hDZ z) (HC0.out)
 have c1_5 : ∀ z : BW W0, z.w.cell? ⟨cb, 1, none⟩ = some (.int .i64 fv.1) := fun z => cellAt (hDZ z) (HXcb.out.at_ 1)
 have c2_5 : ∀ z : BW W0, z.w.cell? ⟨cb, 2, none⟩ = some (.int .i64 fv.2.1) := fun z => cellAt (hDZ z) (HXcb.out.at_ 2)
 have c3_5 : ∀ z : BW W0, z.w.cell? ⟨cb, 3, none⟩ = some (.string fv.2.2) := fun z => cellAt (hDZ z) (HXcb.out.at_ 3)
 have hNE := BW.ne W0
 refine wp_region_below (by kernel_rfl) (by kernel_rfl) ?_
 repeat (go_big_quiet_step ((go_at_call 14; exact BW.on _ (HOF.out _ (blw2 (HBF.out) (hDZ _))))))
 refine wpQuiet_nil ?_
 rintro _ ⟨z, rfl⟩
 have HQ := Veil.mk (hDZ z)
 obtain ⟨wE, hE2⟩ : ∃ wE, z.w = wE := ⟨_, rfl⟩
 rw [hE2] at HQ ⊢
 clear c0_3 c1_5 c2_5 c3_5 hDZ hE2 z hNE
 have hbE := HBF.out.trans (HQ.out.mono HBF.out.size)
 have bcb := HXcb.out.below HQ.out
 have brb := HXrb.out.below HQ.out
 have d0 : wE.cell? ⟨b, 0, none⟩ = some (.int .i64 1) := (HBX.out.below hbE).at_ 0
 have hsE : AS W h A m f ts ia b V0 n xs (fun k => k = rb) wE := (by rw [<- HWD.out]; exact HS0.out.on (Below.refl _ _).drew : AS W h A m f ts ia b V0 n xs (fun k => k = rb) WD).on HQ.out
 have HWC := Veil.mk (AS.callC (fn := 354) (args := #[.pointer (some ⟨m, 0, none⟩), .pointer (some ⟨b, 0, none⟩)]) (r := .returned (.tuple #[valV x, .int .i64 en])) (L := [(rb, VTy, #[.int .i64 0, .int .i64 0, .string ⟨#[]⟩])]) hsE (fun k hk => by rw [hk]; exact brb.lt) hbE.size (fun q9 hq9 => by
  simp only [List.mem_cons, List.not_mem_nil, or_false] at hq9
  rcases hq9 with rfl
  exact ⟨rfl, by show VTy ∈ kvL; decide, brb⟩) (Below.refl _ _) (fun V1 h1 h2 => HIN.out wE V1 hbE h1 h2))
 clear hbE bcb brb hsE HQ HC0 HWD HOF HCM HBX HS0 HXcb HXrb
 go_wp2_with (go_at_call 354; ((with_reducible refine HWC.out.mono ?_); rintro e w6 ⟨rfl, hq6⟩; have HR6 := Veil.mk (And.intro (hq6.l _ (List.mem_cons_self ..)) hq6.s); clear hq6; have z0 : w6.cell? ⟨rb, 0, none⟩ = some (.int .i64 0) := HR6.out.1.at_ 0; have z1 : w6.cell? ⟨rb, 1, none⟩ = some (.int .i64 0) := HR6.out.1.at_ 1; have z2 : w6.cell? ⟨rb, 2, none⟩ = some (.string ⟨#[]⟩) := HR6.out.1.at_ 2; have q0 := HR6.out.1.free 0; have q1 := HR6.out.1.free 1; have q2 := HR6.out.1.free 2))
 have hr3 := ((HR6.out.1.put 0 (.int .i64 x.1)).put 1 (.int .i64 x.2.1)).put 2 (.string x.2.2)
 have y0 := hr3.at_ 0
 have y1 := hr3.at_ 1
 have y2 := hr3.at_ 2
 have hp3 := ((HR6.out.2.put HR6.out.1.lab (.inr rfl) HLO.out.2 HA.out 0 (.int .i64 x.1)).put (HR6.out.1.put 0 _).lab (.inr rfl) HLO.out.2 HA.out 1 (.int .i64 x.2.1)).put ((HR6.out.1.put 0 _).put 1 _).lab (.inr rfl) HLO.out.2 HA.out 2 (.string x.2.2)
 exact bodyPost_ret (v := (.tuple #[valV x, .int .i64 en])) (by simp [results, Tryz.results348, go_sem, y0, y1, y2]) rfl ⟨rfl, hp3.excl (fun k hk => hk.elim)⟩
end
abbrev mfW : MF := { mf0 (prF 21) with it := (8, 22, ⟨#[]⟩) }
structure MC (w : World) (h A m : Nat) (ts : List TO) (w' : World) : Prop where
 s : WS w' h A m mfW 15 e2W eAW e11W ts w'
 bel : Below w.heap.size w w'
 lo : w.heap.size <= A
theorem PrM.ws {w w1 w2 : World} {h A m b : Nat} {ts : List TO} (H : PrM w w1 h A m 21 ts) (hm : MP w2 h A m mfW (ts ++ [TO.sym b (0, 0, ⟨#[]⟩)])) : WS w2 h A m mfW 0 [] [] [] (ts ++ [TO.sym b (0, 0, ⟨#[]⟩)]) w2 := by
 have hl := H.len
 have key : ∀ k, k < 21 -> ∃ t, (ts ++ [TO.sym b (0, 0, ⟨#[]⟩)])[k]? = some t /\ PlT t (if k = 2 then 1 else 0) [] := fun k hk => by
  have hk2 : k < ts.length := by omega
  have hg := List.getElem?_eq_getElem hk2
  refine ⟨ts[k], by rw [List.getElem?_append_left hk2]; exact hg, ?_⟩
  have := H.pl k _ hg
  rw [this]
  exact ⟨rfl, rfl, rfl, rfl, rfl, rfl⟩
 refine ⟨hm, Bk.of_below (Nat.le_of_lt hm.mm.alt) (Below.refl _ _), by rw [List.length_append, hl]; rfl, fun k hk h2 _ => ?_, ?_, ?_, fun j hj => by omega⟩
 ·have := key k hk
  rw [if_neg h2] at this
  exact this
 ·exact key 2 (by decide)
 ·exact key 11 (by decide)
theorem machine_any (w : World) (hT : Lib.TabIs Tryz.prog w "strings.asciiSpace" .u8 Lib.asciiSpaceTab) :
  Calls Tryz.prog 10 #[] w fun e w' => ∃ h A m ts, e = .returned (.pointer (some ⟨m, 0, none⟩)) /\ MC w h A m ts w' := by
 refine protos_any w _ ⟨fun h A m ts w1 H b w2 hm hb => ?_⟩
 have hA := H.lo
 have hb2 : Below w.heap.size w w2 := H.bel.trans (hb.mono hA)
 have hT2 : Lib.TabBelow Tryz.prog A w2 "strings.asciiSpace" .u8 Lib.asciiSpaceTab := fun w' h' => (Lib.tabBelow_of_tabIs hT) w' (hb2.trans (h'.mono hA))
 refine (world_ws (H.ws hm) hT2 (fun k hk => by show prF 21 k = _; unfold prF; rw [if_pos hk]) rfl).mono ?_
 rintro e w3 ⟨sa, he, ts', hs⟩
 refine ⟨sa, he, h, A, m, ts', rfl, ⟨hs.mp, Bk.of_below (Nat.le_of_lt hs.mp.mm.alt) (Below.refl _ _), hs.len, hs.pl, hs.p2, hs.p11, hs.fn⟩, hb2.trans (hs.bk.bel.mono hA), hA⟩
theorem look_e2 (j : Nat) (hj : j < 10) : lookO e2W (7, 0, ⟨(mKey j).toArray⟩) = ((9, 27 + (j : Int), ⟨#[]⟩), 5, true) := by
 exact ten (P := fun j => lookO e2W (7, 0, ⟨(mKey j).toArray⟩) = ((9, 27 + (j : Int), ⟨#[]⟩), 5, true)) ⟨by kernel_rfl, by kernel_rfl, by kernel_rfl, by kernel_rfl, by kernel_rfl, by kernel_rfl, by kernel_rfl, by kernel_rfl, by kernel_rfl, by kernel_rfl⟩ j hj
theorem val_mn (j : Nat) (hj : j < 10) (w : World) : Calls Tryz.prog 44 #[.string (mn j)] w fun e w' => e = .returned (valV (7, 0, ⟨(mKey j).toArray⟩)) /\ Below w.heap.size w w' := by
 obtain ⟨-, -, -, h4, -⟩ := mw_all j hj
 exact W.val_const (mn j) (mKey j) (by omega) (show Hid _ from ten (P := fun j => W.ofB (mn j) = mKey j) (by decide +kernel) j hj) w
section
variable {W : World} {h A m : Nat} {f : MF} {ts : List TO}
theorem MP.method_of (H : MP W h A m f ts) (hl : ts.length < 100000) {ia : Nat} {t t2 : TO} (ht : ts[ia]? = some t) (hcl : t.cl = 1) (hpr : t.proto = 3) (hO : t.O = []) (ht2 : ts[2]? = some t2) (hp2 : PlT t2 1 e2W) (j : Nat) (hj : j < 10) :
  Calls Tryz.prog 21 #[.pointer (some ⟨m, 0, none⟩), valV (9, (ia : Int) + 1, ⟨#[]⟩), .string (mn j)] W fun e w' => e = .returned (.tuple #[valV (9, 27 + (j : Int), ⟨#[]⟩), .int .i64 0]) /\ Below W.heap.size W w' := by
 obtain ⟨p1, p2, p3, p4, p5, p6⟩ := hp2
 have hne : NE 1 (7, 0, ⟨(mKey j).toArray⟩) := (mw_all j hj).2.2.2.2.2.2.2.2
 have hks : (⟨(mKey j).toArray⟩ : ByteArray).size <= 1000 := by have := mw_all j hj; show (mKey j).toArray.size <= 1000; rw [List.size_toArray]; omega
 refine member_w W m (9, (ia : Int) + 1, ⟨#[]⟩) (7, 0, ⟨(mKey j).toArray⟩) (9, 27 + (j : Int), ⟨#[]⟩) (mn j) ⟨fun W' => val_mn j hj W'⟩ ⟨fun W' hb => ?_⟩
 refine getkey_w W' m _ _ _ rfl ⟨fun W2 hb2 => ?_⟩
 have hb3 := hb.trans (hb2.mono hb.size)
 have H2 := H.on hb3
 refine getfrom_w W2 m h _ 5 true _ _ _ (by decide) (H2.mm.mb.at_ 0) H2.mm.mb.lt ⟨fun W4 hb4 => ?_⟩
 have H4 := H2.on hb4
 have ho1 := H4.ownT ht (by rw [hcl]; rfl) (7, 0, ⟨(mKey j).toArray⟩) (by rw [hcl]; exact hne) rfl hks
 have ho2 := H4.ownT ht2 (by rw [p1]; rfl) (7, 0, ⟨(mKey j).toArray⟩) (by rw [p1]; exact hne) rfl hks
 rw [hO] at ho1
 rw [p6, look_e2 j hj] at ho2
 exact H4.find2 (by omega) ia 2 t t2 ht ht2 (by rw [hcl]; rfl) (by rw [p1]; rfl) (by rw [hpr]; rfl) p2 _ _ _ ho1 ho2
end
theorem EL.bv {A : Nat} {V : Nat -> Prop} {W W' : World} {n : Nat} {ev : Value} {xs : Nat -> Vt} (h : EL W A ev n xs) (hb : Bv A V W W') (hn : ∀ k, ev.ownBlock = some k -> ¬ V k) : EL W' A ev n xs := h.imp (fun h => h) (fun ⟨g, cap, e, h9⟩ => ⟨g, cap, e, by
 obtain ⟨l, hx, hl⟩ := h9.bx
 exact ⟨h9.lo, h9.le, h9.sm, l, (hb.kv g VTy (by decide) h9.lab (hn g (by rw [e]; rfl))).trans hx, hl⟩⟩)
structure LawT (ts : List TO) (ia : Nat) : Prop where
 len : ts.length < 100000
 lt : ia < ts.length
 ge : 37 <= ia
 p2 : ∃ t2, ts[2]? = some t2 /\ PlT t2 1 e2W
 fn : ∀ j : Nat, j < 15 -> ∃ t, ts[22 + j]? = some t /\ t.cl = 2 /\ t.fn = (.iface 167 (.agg #[.bool (decide (j = 0))])) /\ t.kd.k = 150 + (j : Int)
abbrev mfS (st : Int) (na ca : Value) : MF := { mfW with st := st, na := na, ca := ca }
structure LS (w : World) (h A m : Nat) (ts : List TO) (ia b n : Nat) (xs : Nat -> Vt) (st : Int) (E : Nat -> Prop) (w' : World) : Prop where
 x : ∃ ev na ca xs0, MP w' h A m (mfS st na ca) (ts.set ia (TO.arr b 3 ev)) /\ EL w' A ev n xs0 /\ (∀ j, j < n -> xs0 j = xs j) /\ Rest w' A (mfS st na ca) /\ (∀ k, ev.ownBlock = some k -> ¬ VCf (mfS st na ca) k /\ ¬ E k) /\ ∀ k, VCf (mfS st na ca) k -> ¬ E k
 bel : Below w.heap.size w w'
 lo : w.heap.size <= A
section
variable {w W W' : World} {h A m ia b n n' : Nat} {ts : List TO} {E : Nat -> Prop} {xs ys : Nat -> Vt} {st st' : Int}
theorem LS.on (H : LS w h A m ts ia b n xs st E W) (hb : Below W.heap.size W W') : LS w h A m ts ia b n xs st E W' := by
 obtain ⟨ev, na, ca, xs0, h1, h2, h3, h4, h5, h6⟩ := H.x
 exact ⟨⟨ev, na, ca, xs0, h1.on hb, h2.on hb, h3, h4.keep (fun k hk => hb.block k (h4.lt hk).2), h5, h6⟩, H.bel.trans (hb.mono H.bel.size), H.lo⟩
theorem LS.excl (H : LS w h A m ts ia b n xs st E W) {E' : Nat -> Prop} (hE : ∀ k, E' k -> E k \/ W.heap.size <= k) : LS w h A m ts ia b n xs st E' W := by
 obtain ⟨ev, na, ca, xs0, h1, h2, h3, h4, h5, h6⟩ := H.x
 refine ⟨⟨ev, na, ca, xs0, h1, h2, h3, h4, fun k hk => ⟨(h5 k hk).1, fun h9 => ?_⟩, fun k hk h9 => ?_⟩, H.bel, H.lo⟩
 ·rcases hE k h9 with h8 | h8
  ·exact (h5 k hk).2 h8
  ·have := (h2.own_lt k hk).2.1
   omega
 ·rcases hE k h9 with h8 | h8
  ·exact h6 k hk h8
  ·have := (h4.lt hk).2
   omega
theorem LS.put (H : LS w h A m ts ia b n xs st E W) {g : Nat} (hl : Lab W g VTy) (hg : E g) (hn : w.heap.size <= g) (i : Nat) (u : Value) : LS w h A m ts ia b n xs st E (W.setCell ⟨g, i, none⟩ u) := by
 obtain ⟨ev, na, ca, xs0, h1, h2, h3, h4, h5, h6⟩ := H.x
 have ht : Touch (fun k => k = g) W (W.setCell ⟨g, i, none⟩ u) := Touch.put (S := fun k => k = g) rfl _ _
 refine ⟨⟨ev, na, ca, xs0, h1.putv hl i u, h2.put g i u (fun ad n2 cap e e9 => (h5 ad.block (by rw [e]; rfl)).2 (by rw [e9]; exact hg)), h3, h4.keep (fun k hk => ht.block k (h4.lt hk).2 (fun e => h6 k hk (by rw [e]; exact hg))), h5, h6⟩, H.bel.setCell (p := ⟨g, i, none⟩) hn u, H.lo⟩
theorem LS.at0 (H : LS w h A m ts ia b n xs st E W) : W.cell? ⟨m, 0, none⟩ = some (.pointer (some ⟨h, 0, none⟩)) := by
 obtain ⟨ev, na, ca, xs0, h1, -⟩ := H.x
 exact h1.mm.mb.at_ 0
theorem LS.member (H : LS w h A m ts ia b n xs st E W) (L : LawT ts ia) (j : Nat) (hj : j < 10) :
  Calls Tryz.prog 21 #[.pointer (some ⟨m, 0, none⟩), valV (9, (ia : Int) + 1, ⟨#[]⟩), .string (mn j)] W fun e w' => e = .returned (.tuple #[valV (9, 27 + (j : Int), ⟨#[]⟩), .int .i64 0]) /\ Below W.heap.size W w' := by
 obtain ⟨ev, na, ca, xs0, h1, -⟩ := H.x
 obtain ⟨t2, ht2, hp2⟩ := L.p2
 have hge := L.ge
 exact h1.method_of (by rw [List.length_set]; exact L.len) (List.getElem?_set_self L.lt) rfl rfl rfl (by rw [List.getElem?_set_ne (by omega)]; exact ht2) hp2 j hj
theorem LS.call (H : LS w h A m ts ia b n xs st E W) (L : LawT ts ia) (hE : ∀ k, E k -> k < W.heap.size) (hs0 : 0 <= st) (hs1 : st < 4194304) (j : Nat) (hj : j < 10) (args : Value) (l : List Vt) (hr : RowV W args l) (hl : l.length <= 1000) (hgE : ∀ k, args.ownBlock = some k -> E k) (x : Vt) (en : Int)
  (HD : ∀ W1 f1 V0 fo, AS W1 h A m f1 ts ia b V0 n xs (fun _ => False) W1 -> f1.ov = false -> f1.st = st + 1 -> RowV W1 args l -> (∀ k, args.ownBlock = some k -> ¬ V0 k) -> Calls Tryz.prog 348 #[.pointer (some ⟨m, 0, none⟩), .int .i64 (154 + (j : Int)), callV fo (9, (ia : Int) + 1, ⟨#[]⟩) args (0, 0, ⟨#[]⟩)] W1 fun e w' => e = .returned (.tuple #[valV x, .int .i64 en]) /\ AS W1 h A m { f1 with st := st' } ts ia b V0 n' ys (fun _ => False) w') :
  Calls Tryz.prog 28 #[.pointer (some ⟨m, 0, none⟩), valV (9, 27 + (j : Int), ⟨#[]⟩), valV (9, (ia : Int) + 1, ⟨#[]⟩), args] W fun e w' => e = .returned (.tuple #[valV x, .int .i64 en]) /\ LS w h A m ts ia b n' ys st' E w' /\ (∀ g T cs, T ∈ kvL -> E g -> Box W g T cs -> Box w' g T cs) /\ W.heap.size <= w'.heap.size := by
 obtain ⟨ev, na, ca, xs0, h1, h2, h3, h4, h5, h6⟩ := H.x
 obtain ⟨t, ht, c1, c2, c3⟩ := L.fn (4 + j) (by omega)
 have hge := L.ge
 have hA := Nat.le_of_lt h1.mm.alt
 have ht' : (ts.set ia (TO.arr b 3 ev))[26 + j]? = some t := by rw [List.getElem?_set_ne (by omega), <- ht]; congr 1; omega
 obtain ⟨ao, cap, hag, -⟩ := id hr
 have hR : RStay A (fun D ts2 st2 w9 => ∃ ev' xs', ts2 = ts.set ia (TO.arr b 3 ev') /\ EL w9 A ev' n' xs' /\ (∀ j, j < n' -> xs' j = ys j) /\ st2 = st' /\ ∀ k, ev'.ownBlock = some k -> D k) := fun D ts2 st2 w1 w2 V' hq hbv hn => by
  obtain ⟨ev', xs', e1, e2, e3, e4, e5⟩ := hq
  exact ⟨ev', xs', e1, e2.bv hbv (fun k hk => hn k (e5 k hk)), e3, e4, e5⟩
 have key := h1.call h4 rfl hs0 hs1 (by show (0 : Int) <= 0; decide) (by show (0 : Int) < 20; decide) (by rw [List.length_set]; exact L.len) ht' c1 (decide (4 + j = 0)) c2 (154 + (j : Int)) (by rw [c3]; omega) (9, (ia : Int) + 1, ⟨#[]⟩) x en args ao l.length cap hag (by omega) (fun k => ev.ownBlock = some k) (fun k hk => ⟨(h2.own_lt k hk).2.1, (h5 k hk).1⟩) _ hR ⟨fun W1 f1 g1 g2 g3 g4 => by
  obtain ⟨na1, ca1, hf1⟩ := g2
  have hA1 := Nat.le_of_lt g1.mm.alt
  have has : AS W1 h A m f1 ts ia b (fun k => ev.ownBlock = some k) n xs (fun _ => False) W1 := ⟨ev, xs0, g1, h2.bv g3 (fun k hk => (h5 k hk).1), h3, (Bk.of_below hA1 (Below.refl _ _)).bv _, fun k hk => ⟨.inl hk, fun h => h⟩⟩
  refine (HD W1 f1 _ t.b has (by rw [hf1]) (by rw [hf1]) (g3.row hr (fun k hk h9 => h6 k h9 (hgE k hk))) (fun k hk h9 => (h5 k h9).2 (hgE k hk))).mono ?_
  rintro e w9 ⟨he, hq⟩
  obtain ⟨ev', xs', q1, q2, q3, q4, q5⟩ := hq.x
  exact ⟨he, _, _, fun k => ev'.ownBlock = some k, q1, q4, ⟨ev', xs', rfl, q2, q3, rfl, fun k hk => hk⟩, fun k hk => ⟨(q2.own_lt k hk).2.1, fun h => h, (q5 k hk).1⟩⟩⟩
 rw [show ((26 + j : Nat) : Int) + 1 = 27 + (j : Int) by omega] at key
 refine key.mono ?_
 rintro e w9 ⟨he, hq⟩
 obtain ⟨ts2, st2, D, f2, q1, ⟨na2, ca2, q2⟩, q3, q4, q5, ⟨ev', xs', r1, r2, r3, r4, r5⟩, q7⟩ := hq.x
 subst r1 r4 q2
 refine ⟨he, ⟨⟨ev', na2, ca2, xs', q1, r2, r3, q3, fun k hk => ⟨(q7 k (r5 k hk)).2.1, fun h9 => ?_⟩, fun k hk h9 => ?_⟩, H.bel.trans (q5.bel.mono H.lo), H.lo⟩, fun g T cs hT hg hbx => q5.box hbx hT (fun h9 => h9.elim (fun h8 => (h5 g h8).2 hg) (fun h8 => h6 g h8 hg)), q5.bel.size⟩
 ·rcases (q7 k (r5 k hk)).2.2.2 with h8 | h8
  ·exact (h5 k h8).2 h9
  ·have := hE k h9
   omega
 ·rcases (q4 k hk).1 with h8 | h8
  ·exact h6 k h8 h9
  ·have := hE k h9
   omega
end
section
variable {w W W' : World} {h A m ia b n n' : Nat} {ts : List TO} {E : Nat -> Prop} {xs ys : Nat -> Vt} {st st' : Int}
theorem LS.ask (H : LS w h A m ts ia b n xs st E W) (L : LawT ts ia) (hE : ∀ k, E k -> k < W.heap.size) (hs0 : 0 <= st) (hs1 : st < 4194304) (j : Nat) (hj : j < 10) (nm : ByteArray) (hnm : mn j = nm) (args : Value) (l : List Vt) (hr : RowV W args l) (hl : l.length <= 1000) (hgE : ∀ k, args.ownBlock = some k -> E k) (x : Vt) (en : Int)
  (HD : ∀ W1 f1 V0 fo, AS W1 h A m f1 ts ia b V0 n xs (fun _ => False) W1 -> f1.ov = false -> f1.st = st + 1 -> RowV W1 args l -> (∀ k, args.ownBlock = some k -> ¬ V0 k) -> Calls Tryz.prog 348 #[.pointer (some ⟨m, 0, none⟩), .int .i64 (154 + (j : Int)), callV fo (9, (ia : Int) + 1, ⟨#[]⟩) args (0, 0, ⟨#[]⟩)] W1 fun e w' => e = .returned (.tuple #[valV x, .int .i64 en]) /\ AS W1 h A m { f1 with st := st' } ts ia b V0 n' ys (fun _ => False) w') :
  Calls Tryz.prog 20 #[.pointer (some ⟨m, 0, none⟩), valV (9, (ia : Int) + 1, ⟨#[]⟩), .string nm, args] W fun e w' => e = .returned (.tuple #[valV x, .int .i64 en]) /\ LS w h A m ts ia b n' ys st' E w' /\ (∀ g T cs, T ∈ kvL -> E g -> Box W g T cs -> Box w' g T cs) /\ W.heap.size <= w'.heap.size := by
 obtain ⟨fv, hfv⟩ : ∃ fv : Vt, ((9, (ia : Int) + 1, ⟨#[]⟩) : Vt) = fv := ⟨_, rfl⟩
 obtain ⟨fn, hfn⟩ : ∃ fn : Vt, ((9, 27 + (j : Int), ⟨#[]⟩) : Vt) = fn := ⟨_, rfl⟩
 obtain ⟨vb, hvb⟩ : ∃ vb, W.heap.size = vb := ⟨_, rfl⟩
 obtain ⟨rb, hrb⟩ : ∃ rb, vb + 1 = rb := ⟨_, rfl⟩
 obtain ⟨W0, hW0⟩ : ∃ W0, ((W.alloc (.cells #[.int .i64 fv.1, .int .i64 fv.2.1, .string fv.2.2] 28)).alloc (.cells #[.int .i64 0, .int .i64 0, .string ⟨#[]⟩] 28)) = W0 := ⟨_, rfl⟩
 have bb : Below W.heap.size W W0 := by rw [<- hW0]; exact (((Below.refl _ _).alloc (Nat.le_refl _) _).alloc (by simp only [World.size_alloc]; omega) _)
 have xvb : Box W0 vb 28 #[.int .i64 fv.1, .int .i64 fv.2.1, .string fv.2.2] := by have h9 := ((Box.new W 28 #[.int .i64 fv.1, .int .i64 fv.2.1, .string fv.2.2]).more (.cells #[.int .i64 0, .int .i64 0, .string ⟨#[]⟩] 28)); rw [hW0, hvb] at h9; exact h9
 have xrb : Box W0 rb 28 #[.int .i64 0, .int .i64 0, .string ⟨#[]⟩] := by have h9 := Box.new (W.alloc (.cells #[.int .i64 fv.1, .int .i64 fv.2.1, .string fv.2.2] 28)) 28 #[.int .i64 0, .int .i64 0, .string ⟨#[]⟩]; rw [hW0, show (W.alloc (.cells #[.int .i64 fv.1, .int .i64 fv.2.1, .string fv.2.2] 28)).heap.size = rb from by simp only [World.size_alloc]; omega] at h9; exact h9
 have HW0 := Veil.mk (And.intro hW0 (And.intro hvb (hrb)))
 have HBB := Veil.mk (And.intro bb (And.intro xvb (xrb)))
 have HLO : Veil (W.heap.size <= vb /\ W.heap.size <= rb) := ⟨by omega⟩
 clear hW0 bb hvb xvb hrb xrb
 have HS0 : Veil (LS w h A m ts ia b n xs st (fun k => E k \/ k = vb \/ k = rb) W0) := ⟨(H.excl (fun k hk => hk.elim (fun h => .inl h) (fun h => .inr (by rcases h with rfl | rfl; exact HLO.out.1; exact HLO.out.2)))).on HBB.out.1⟩
 have HMB : Veil (∀ w9, Below W0.heap.size W0 w9 -> Calls Tryz.prog 21 #[.pointer (some ⟨m, 0, none⟩), valV fv, .string nm] w9 fun e w' => e = .returned (.tuple #[valV fn, .int .i64 0]) /\ Below w9.heap.size w9 w') := ⟨fun w9 hb => by rw [<- hfv, <- hfn, <- hnm]; exact (HS0.out.on hb).member L j hj⟩
 have HCL : Veil (∀ w9, Below W0.heap.size W0 w9 -> Calls Tryz.prog 28 #[.pointer (some ⟨m, 0, none⟩), valV fn, valV fv, args] w9 fun e w' => e = .returned (.tuple #[valV x, .int .i64 en]) /\ LS w h A m ts ia b n' ys st' (fun k => E k \/ k = vb \/ k = rb) w' /\ (∀ g T cs, T ∈ kvL -> (E g \/ g = vb \/ g = rb) -> Box w9 g T cs -> Box w' g T cs) /\ w9.heap.size <= w'.heap.size) := ⟨fun w9 hb => by
  rw [<- hfv, <- hfn]
  exact (HS0.out.on hb).call L (fun k hk => by
   have h1 := HBB.out.1.size
   have h2 := hb.size
   have h3 := HBB.out.2.1.lt
   have h4 := HBB.out.2.2.lt
   rcases hk with h9 | h9 | h9
   ·have := hE k h9; omega
   ·omega
   ·omega) hs0 hs1 j hj args l ((hr.on HBB.out.1).on hb) hl (fun k hk => .inl (hgE k hk)) x en HD⟩
 have HEE := Veil.mk (And.intro hE (show w.heap.size <= W.heap.size from H.bel.size))
 have c0 : W0.cell? ⟨vb, 0, none⟩ = some (.int .i64 fv.1) := HBB.out.2.1.at_ 0
 have c1 : W0.cell? ⟨vb, 1, none⟩ = some (.int .i64 fv.2.1) := HBB.out.2.1.at_ 1
 have c2 : W0.cell? ⟨vb, 2, none⟩ = some (.string fv.2.2) := HBB.out.2.1.at_ 2
 rw [hfv]
 clear hfv hfn hnm H L hE hs0 hs1 hr hl hgE HD HS0
 go_enter Tryz.func20, Tryz.ntmps20
 go_upto_region 1 with (fail)
 rw [HW0.out.1, HW0.out.2.1, HW0.out.2.2]
 have HM0 := Veil.mk (HMB.out W0 (Below.refl _ _))
 go_upto_region 2 with (go_at_call 21; ((with_reducible refine HM0.out.mono ?_); rintro e w1 ⟨rfl, hb1⟩; have HB1 := Veil.mk hb1; clear hb1))
 obtain ⟨fb, hfb⟩ : ∃ fb, w1.heap.size = fb := ⟨_, rfl⟩
 obtain ⟨w2, hw2⟩ : ∃ w2, w1.alloc (.cells #[.int .i64 fn.1, .int .i64 fn.2.1, .string fn.2.2] 28) = w2 := ⟨_, rfl⟩
 have bx := Box.new w1 28 #[.int .i64 fn.1, .int .i64 fn.2.1, .string fn.2.2]
 have bl : Below w1.heap.size w1 (w1.alloc (.cells #[.int .i64 fn.1, .int .i64 fn.2.1, .string fn.2.2] 28)) := (Below.refl _ _).alloc (Nat.le_refl _) _
 rw [hw2] at bx bl ⊢
 rw [hfb] at bx ⊢
 have HB2 := Veil.mk (blw2 HB1.out bl)
 have HX2 := Veil.mk bx
 clear c0 c1 c2 bx bl hw2 hfb HM0 HB1 HMB
 have hv2 := HBB.out.2.1.below HB2.out
 have c0 : w2.cell? ⟨vb, 0, none⟩ = some (.int .i64 fv.1) := hv2.at_ 0
 have c1 : w2.cell? ⟨vb, 1, none⟩ = some (.int .i64 fv.2.1) := hv2.at_ 1
 have c2 : w2.cell? ⟨vb, 2, none⟩ = some (.string fv.2.2) := hv2.at_ 2
 have d0 : w2.cell? ⟨fb, 0, none⟩ = some (.int .i64 fn.1) := HX2.out.at_ 0
 have d1 : w2.cell? ⟨fb, 1, none⟩ = some (.int .i64 fn.2.1) := HX2.out.at_ 1
 have d2 : w2.cell? ⟨fb, 2, none⟩ = some (.string fn.2.2) := HX2.out.at_ 2
 have HC2 := Veil.mk (HCL.out w2 HB2.out)
 clear hv2 HCL
 go_wp2_with (go_at_call 28; ((with_reducible refine HC2.out.mono ?_); rintro e w6 ⟨rfl, hls, hbx, hsz⟩; have HR6 := Veil.mk (And.intro (hbx rb _ _ (by decide) (.inr (.inr rfl)) (HBB.out.2.2.below HB2.out)) (And.intro hls (And.intro hbx hsz))); clear hls hbx hsz; have z0 : w6.cell? ⟨rb, 0, none⟩ = some (.int .i64 0) := HR6.out.1.at_ 0; have z1 : w6.cell? ⟨rb, 1, none⟩ = some (.int .i64 0) := HR6.out.1.at_ 1; have z2 : w6.cell? ⟨rb, 2, none⟩ = some (.string ⟨#[]⟩) := HR6.out.1.at_ 2; have q0 := HR6.out.1.free 0; have q1 := HR6.out.1.free 1; have q2 := HR6.out.1.free 2))
 have hr3 := ((HR6.out.1.put 0 (.int .i64 x.1)).put 1 (.int .i64 x.2.1)).put 2 (.string x.2.2)
 have y0 := hr3.at_ 0
 have y1 := hr3.at_ 1
 have y2 := hr3.at_ 2
 have hwr : w.heap.size <= rb := Nat.le_trans HEE.out.2 HLO.out.2
 have hp3 := ((HR6.out.2.1.put HR6.out.1.lab (.inr (.inr rfl)) hwr 0 (.int .i64 x.1)).put (HR6.out.1.put 0 _).lab (.inr (.inr rfl)) hwr 1 (.int .i64 x.2.1)).put ((HR6.out.1.put 0 _).put 1 _).lab (.inr (.inr rfl)) hwr 2 (.string x.2.2)
 refine bodyPost_ret (v := (.tuple #[valV x, .int .i64 en])) (by simp [results, Tryz.results20, go_sem, y0, y1, y2]) rfl ⟨rfl, hp3.excl (fun k hk => .inl (.inl hk)), fun g T cs hT hg hx => ?_, ?_⟩
 ·have hne : g ≠ rb := fun e => by
   have h1 := HEE.out.1 g hg
   have h2 := HLO.out.2
   omega
  have h6 := HR6.out.2.2.1 g T cs hT (.inl hg) ((hx.below HBB.out.1).below HB2.out)
  exact ((h6.touch (Touch.put (S := fun k => k = rb) rfl 0 (.int .i64 x.1)) hne).touch (Touch.put (S := fun k => k = rb) rfl 1 (.int .i64 x.2.1)) hne).touch (Touch.put (S := fun k => k = rb) rfl 2 (.string x.2.2)) hne
 ·simp only [World.size_setCell]
  have h1 := HBB.out.1.size
  have h2 := HB2.out.size
  have h3 := HR6.out.2.2.2
  omega
end
theorem num_any (i : Int) (W : World) : Calls Tryz.prog 19 #[.int .i64 i] W fun e w' => e = .returned (valV (3, i, ⟨#[]⟩)) /\ Below W.heap.size W w' := by
 obtain ⟨rb, hrb⟩ : ∃ rb, W.heap.size = rb := ⟨_, rfl⟩
 obtain ⟨W0, hW0⟩ : ∃ W0, (W.alloc (.cells #[.int .i64 0, .int .i64 0, .string ⟨#[]⟩] 28)) = W0 := ⟨_, rfl⟩
 have bb : Below W.heap.size W W0 := by rw [<- hW0]; exact ((Below.refl _ _).alloc (Nat.le_refl _) _)
 have xrb : Box W0 rb 28 #[.int .i64 0, .int .i64 0, .string ⟨#[]⟩] := by have h9 := Box.new W 28 #[.int .i64 0, .int .i64 0, .string ⟨#[]⟩]; rw [hW0, hrb] at h9; exact h9
 have HW0 := Veil.mk (And.intro hW0 (hrb))
 have HBB := Veil.mk (And.intro bb (xrb))
 have HLO : Veil (W.heap.size <= rb) := ⟨by omega⟩
 clear hW0 bb hrb xrb
 go_enter Tryz.func19, Tryz.ntmps19
 go_upto_region 1 with (fail)
 rw [HW0.out.1, HW0.out.2]
 have z0 : W0.cell? ⟨rb, 0, none⟩ = some (.int .i64 0) := HBB.out.2.at_ 0
 have z1 : W0.cell? ⟨rb, 1, none⟩ = some (.int .i64 0) := HBB.out.2.at_ 1
 have z2 : W0.cell? ⟨rb, 2, none⟩ = some (.string ⟨#[]⟩) := HBB.out.2.at_ 2
 have q0 := HBB.out.2.free 0
 have q1 := HBB.out.2.free 1
 have q2 := HBB.out.2.free 2
 go_wp2
 have hr3 := ((HBB.out.2.put 0 (.int .i64 3)).put 1 (.int .i64 i)).put 2 (.string ⟨#[]⟩)
 have y0 := hr3.at_ 0
 have y1 := hr3.at_ 1
 have y2 := hr3.at_ 2
 have hrb : W.heap.size <= rb := HLO.out
 exact bodyPost_ret (v := valV (3, i, ⟨#[]⟩)) (by simp [results, Tryz.results19, go_sem, y0, y1, y2]) rfl ⟨rfl, ((HBB.out.1.setCell (p := ⟨rb, 0, none⟩) hrb _).setCell (p := ⟨rb, 1, none⟩) hrb _).setCell (p := ⟨rb, 2, none⟩) hrb _⟩
section
variable {w W W' : World} {h A m ia b n n' : Nat} {ts : List TO} {E : Nat -> Prop} {xs ys : Nat -> Vt} {st st' : Int}
theorem push_hd (L : LawT ts ia) (l : List Vt) (hn : n + l.length <= 100) (hs0 : 0 <= st) (hs1 : st + 1 + l.length < 4194304) (args : Value) (W1 : World) (f1 : MF) (V0 : Nat -> Prop) (fo : Nat) (H : AS W1 h A m f1 ts ia b V0 n xs (fun _ => False) W1) (hov : f1.ov = false) (hst : f1.st = st + 1) (hr : RowV W1 args l) (hV : ∀ k, args.ownBlock = some k -> ¬ V0 k) :
  Calls Tryz.prog 348 #[.pointer (some ⟨m, 0, none⟩), .int .i64 (154 + ((0 : Nat) : Int)), callV fo (9, (ia : Int) + 1, ⟨#[]⟩) args (0, 0, ⟨#[]⟩)] W1 fun e w' => e = .returned (.tuple #[valV (3, (n : Int) + (l.length : Int), ⟨#[]⟩), .int .i64 0]) /\ AS W1 h A m { f1 with st := st + 1 + l.length } ts ia b V0 (n + l.length) (fun i => if i < n then xs i else lx l (i - n)) (fun _ => False) w' := by
 obtain ⟨t2, ht2, hp2⟩ := L.p2
 have hge := L.ge
 rw [<- hst]
 exact H.doPush L.lt fo (0, 0, ⟨#[]⟩) (3, (n : Int) + (l.length : Int), ⟨#[]⟩) 0 args ⟨fun w9 V1 hb hs hv => hs.push L.lt (by omega) ht2 hp2 L.len l hn hov (by omega) (by omega) args (hr.on hb) (fun k hk h9 => (hv k h9).elim (fun h8 => hV k hk h8) (fun h8 => by
  obtain ⟨ao, cap, e, -, -, hg⟩ := hr
  subst e
  cases ao with
  | none => cases hk
  | some ad =>
   obtain ⟨g, e2, hl, -⟩ := hg ad rfl
   injection hk with hk
   have := lab_lt hl
   subst e2
   have hk : g = k := hk
   omega))⟩
theorem pop_hd (L : LawT ts ia) (hn : n <= 10000) (args : Value) (l : List Vt) (W1 : World) (f1 : MF) (V0 : Nat -> Prop) (fo : Nat) (H : AS W1 h A m f1 ts ia b V0 (n + 1) xs (fun _ => False) W1) (_hov : f1.ov = false) (hst : f1.st = st + 1) (_hr : RowV W1 args l) (_hV : ∀ k, args.ownBlock = some k -> ¬ V0 k) :
  Calls Tryz.prog 348 #[.pointer (some ⟨m, 0, none⟩), .int .i64 (154 + ((1 : Nat) : Int)), callV fo (9, (ia : Int) + 1, ⟨#[]⟩) args (0, 0, ⟨#[]⟩)] W1 fun e w' => e = .returned (.tuple #[valV (uh (xs n)), .int .i64 0]) /\ AS W1 h A m { f1 with st := st + 1 } ts ia b V0 n xs (fun _ => False) w' := by
 rw [<- hst]
 exact H.doPop L.lt fo (0, 0, ⟨#[]⟩) (uh (xs n)) 0 args ⟨fun w9 V1 hb hs hv => hs.pop L.lt hn⟩
theorem MC.array (H : MC w h A m ts W) (E : Nat -> Prop) (hE : ∀ k, E k -> k < W.heap.size) (sv : Value) (l : List Vt) (hr : RowV W sv l) (hl : l.length <= 10000) :
  Calls Tryz.prog 11 #[.pointer (some ⟨m, 0, none⟩), sv] W fun e w' => e = .returned (valV (9, 38, ⟨#[]⟩)) /\ ∃ b ts', LawT ts' 37 /\ LS w h A m ts' 37 b l.length (lx l) 0 E w' /\ (∀ g T cs, T ∈ kvL -> Box W g T cs -> Box w' g T cs) /\ W.heap.size <= w'.heap.size := by
 have hlen : ts.length = 37 := H.s.len
 have key := H.s.mp.arrayE sv l hr hl (by omega)
 rw [hlen] at key
 refine key.mono ?_
 rintro e w' ⟨he, b, ev, h1, ⟨-, h2⟩, h3, h4⟩
 have hw : (ts ++ [TO.arr b 3 ev]).set 37 (TO.arr b 3 ev) = ts ++ [TO.arr b 3 ev] := by
  rw [List.set_append_right 37 _ (by omega), hlen]
  rfl
 have hge : ∀ k t, k < 37 -> ts[k]? = some t -> (ts ++ [TO.arr b 3 ev])[k]? = some t := fun k t hk hg => by rw [List.getElem?_append_left (by omega)]; exact hg
 refine ⟨he, b, ts ++ [TO.arr b 3 ev], ⟨by rw [List.length_append, hlen]; show 38 < 100000; decide, by rw [List.length_append, hlen]; show 37 < 38; decide, by decide, ?_, fun j hj => ?_⟩, ⟨⟨ev, .slice none 0 0, .slice none 0 0, lx l, by rw [hw]; exact h1, h2, fun _ _ => rfl, ⟨⟨by simp, .inl ⟨rfl, rfl⟩⟩, ⟨by simp, .inl ⟨rfl, rfl⟩⟩⟩, fun k hk => ⟨fun h9 => ?_, fun h9 => ?_⟩, fun k hk => ?_⟩, H.bel.trans (h3.bel.mono H.lo), H.lo⟩, fun g T cs hT hbx => h3.boxE hbx hT, h3.bel.size⟩
 ·obtain ⟨t2, ht2, hp2⟩ := H.s.p2
  exact ⟨t2, hge 2 t2 (by decide) ht2, hp2⟩
 ·obtain ⟨t, ht, ⟨c1, c2, c3, c4⟩, -⟩ := H.s.fn j hj
  exact ⟨t, hge _ t (by omega) ht, c1, c3, by rw [c4]⟩
 ·rcases h9 with h9 | h9 <;> cases h9
 ·obtain ⟨ao, cap, e⟩ := h2.evs
  subst e
  cases ao with
  | none => cases hk
  | some ad =>
   have := h4 ad _ _ rfl
   have := hE k h9
   injection hk with hk
   have hk : ad.block = k := by
    first
     | exact hk
     | (split at hk <;> first | (injection hk) | cases hk)
   omega
 ·rcases hk with hk | hk <;> cases hk
end
structure LB (w : World) (h A m : Nat) (ts : List TO) (ia b n : Nat) (xs : Nat -> Vt) (st : Int) (K : Nat -> Prop) (L : List (Nat × TypeId × Array Value)) (E : Nat -> Prop) (w' : World) : Prop where
 s : LS w h A m ts ia b n xs st (fun k => E k \/ K k) w'
 l : ∀ q ∈ L, Box w' q.1 q.2.1 q.2.2
structure BR (WD : World) (P : (Nat -> Prop) -> World -> Prop) (x : Vt) (cs : Array Value) (ir ic ia is : Nat) (d : Nat -> Bool) (us : Nat -> Value) (w : World) : Prop where
 g : BG WD P x ic ia is d us w
 r : d ir = true -> d ic = false -> ∃ g, us ir = .slice (some ⟨g, 0, none⟩) 1 1 /\ WD.heap.size <= g /\ Box w g VTy cs
section
variable {WD w w' : World} {P : (Nat -> Prop) -> World -> Prop} {x : Vt} {cs : Array Value} {ir ic ia is : Nat} {d : Nat -> Bool} {us : Nat -> Value}
theorem BR.quiet (H : BR WD P x cs ir ic ia is d us w) (hP : PG WD.heap.size P) (i : Nat) (v : Value) (hi : (i ≠ ic /\ i ≠ ia /\ i ≠ is) /\ i ≠ ir) (hb : Below w.heap.size w w') : BR WD P x cs ir ic ia is (upd d i true) (upd us i v) w' := by
 refine ⟨H.g.quiet hP i v hi.1 hb, fun e1 e2 => ?_⟩
 rw [upd_ne _ _ (Ne.symm hi.2)] at e1
 rw [upd_ne _ _ (Ne.symm hi.1.1)] at e2
 rw [upd_ne _ _ (Ne.symm hi.2)]
 obtain ⟨g, a, b, c⟩ := H.r e1 e2
 exact ⟨g, a, b, c.below hb⟩
theorem BR.pure (H : BR WD P x cs ir ic ia is d us w) (i : Nat) (v : Value) (hi : (i ≠ ic /\ i ≠ ia /\ i ≠ is) /\ i ≠ ir) : BR WD P x cs ir ic ia is (upd d i true) (upd us i v) w := by
 refine ⟨H.g.pure i v hi.1, fun e1 e2 => ?_⟩
 rw [upd_ne _ _ (Ne.symm hi.2)] at e1
 rw [upd_ne _ _ (Ne.symm hi.1.1)] at e2
 rw [upd_ne _ _ (Ne.symm hi.2)]
 exact H.r e1 e2
theorem BR.row (H : BR WD P x cs ir ic ia is d us w) (hP : PG WD.heap.size P) (hi : ir ≠ ic /\ ir ≠ ia /\ ir ≠ is) : BR WD P x cs ir ic ia is (upd d ir true) (upd us ir (.slice (some ⟨w.heap.size, 0, none⟩) 1 1)) (w.alloc (.cells cs VTy)) :=
 ⟨H.g.quiet hP ir _ hi ((Below.refl _ _).alloc (Nat.le_refl _) _), fun _ _ => ⟨w.heap.size, upd_same _ _ _, H.g.sz, Box.new w VTy cs⟩⟩
theorem BR.mk_ (H : BR WD P x cs ir ic ia is d us w) (hP : PG WD.heap.size P) (h1 : ic ≠ ia) (h2 : is ≠ ia) (h3 : ir ≠ ia) (h18 : d is = false) : BR WD P x cs ir ic ia is (upd d ia true) (upd us ia (.pointer (some ⟨w.heap.size, 0, none⟩))) (w.alloc (.cells #[.int .i64 0, .int .i64 0, .string ⟨#[]⟩] VTy)) := by
 refine ⟨H.g.mk_ hP h1 h2 h18, fun e1 e2 => ?_⟩
 rw [upd_ne _ _ h3] at e1
 rw [upd_ne _ _ h1] at e2
 rw [upd_ne _ _ h3]
 obtain ⟨g, a, b, c⟩ := H.r e1 e2
 exact ⟨g, a, b, c.more _⟩
theorem BR.call (H : BR WD P x cs ir ic ia is d us w) (hP : PG WD.heap.size P) (h1 : ia ≠ ic) (h2 : is ≠ ic) (h18 : d is = false) (hq : P (fun k => WD.heap.size <= k /\ k < w.heap.size) w') (hk : ∀ g cs, WD.heap.size <= g -> Box w g VTy cs -> Box w' g VTy cs) (hs : w.heap.size <= w'.heap.size) (v : Value) : BR WD P x cs ir ic ia is (upd d ic true) (upd us ic v) w' :=
 ⟨H.g.call hP h1 h2 h18 hq hk hs v, fun _ e2 => by rw [upd_same] at e2; cases e2⟩
theorem BR.sto (H : BR WD P x cs ir ic ia is d us w) (hP : PG WD.heap.size P) (h1 : ic ≠ is) (h2 : ia ≠ is) (h13 : d ic = true) (h17 : d ia = true) (h18 : d is = false) {g : Nat} (hg : us ia = .pointer (some ⟨g, 0, none⟩)) (v : Value) : BR WD P x cs ir ic ia is (upd d is true) (upd us is v) (((w.setCell ⟨g, 0, none⟩ (.int .i64 x.1)).setCell ⟨g, 1, none⟩ (.int .i64 x.2.1)).setCell ⟨g, 2, none⟩ (.string x.2.2)) :=
 ⟨H.g.sto hP h1 h2 h13 h17 h18 hg v, fun _ e2 => by rw [upd_ne _ _ h1, h13] at e2; cases e2⟩
theorem BR.start : BR WD P x cs ir ic ia is (fun _ => false) us WD := ⟨BG.start, fun e => by cases e⟩
end
section
variable {w W W' : World} {h A m ia b n n' : Nat} {ts : List TO} {E K : Nat -> Prop} {xs ys : Nat -> Vt} {st st' : Int} {L : List (Nat × TypeId × Array Value)}
theorem LB.pg (N : Nat) (hN : w.heap.size <= N) (hL : ∀ q ∈ L, q.1 < N) : PG N (LB w h A m ts ia b n xs st K L) :=
 ⟨fun _ _ _ H hb => ⟨H.s.on hb, fun q hq => (H.l q hq).below hb⟩,
  fun E E' w9 H hE => ⟨H.s.excl (fun k hk => hk.elim (fun h9 => (hE k h9).imp (fun h8 => .inl h8) (fun h => h)) (fun h9 => .inl (.inr h9))), H.l⟩,
  fun E w9 g i u H hl hg hn => ⟨H.s.put hl (.inl hg) (Nat.le_trans hN hn) _ _, fun q hq => (H.l q hq).touch (Touch.put (S := fun k => k = g) rfl _ _) (fun e => by have := hL q hq; omega)⟩⟩
end
theorem fit_any (w : World) (hT : Lib.TabIs Tryz.prog w "strings.asciiSpace" .u8 Lib.asciiSpaceTab) : Calls Tryz.prog 8 #[] w fun e w' => e = .returned (.bool true) /\ Below w.heap.size w w' := by
 have HMC := Veil.mk (machine_any w hT)
 clear hT
 go_enter Tryz.func8, Tryz.ntmps8
 go_upto_region 4 with (go_at_call 10; ((with_reducible refine HMC.out.mono ?_); rintro e w1 ⟨h, A, m, ts0, rfl, hmc⟩; have HM1 := Veil.mk hmc; clear hmc))
 have HAR := Veil.mk (HM1.out.array (fun _ => False) (fun k hk => hk.elim) (.slice none 0 0) [] (RowV.nil _) (by decide))
 clear HMC
 obtain ⟨fv, hfv⟩ : ∃ fv : Vt, ((9, 38, ⟨#[]⟩) : Vt) = fv := ⟨_, rfl⟩
 rw [hfv] at HAR
 go_upto_region 5 with (go_at_call 11; ((with_reducible refine HAR.out.mono ?_); rintro e w2 ⟨rfl, b, ts, hlt, hls, hbx, hsz⟩; have HL2 := Veil.mk (And.intro hlt hls); clear hlt hls hbx hsz))
 obtain ⟨ab, hab⟩ : ∃ ab, w2.heap.size = ab := ⟨_, rfl⟩
 obtain ⟨w3, hw3⟩ : ∃ w3, w2.alloc (.cells #[.int .i64 fv.1, .int .i64 fv.2.1, .string fv.2.2] 28) = w3 := ⟨_, rfl⟩
 have bx := Box.new w2 28 #[.int .i64 fv.1, .int .i64 fv.2.1, .string fv.2.2]
 have bl : Below w2.heap.size w2 (w2.alloc (.cells #[.int .i64 fv.1, .int .i64 fv.2.1, .string fv.2.2] 28)) := (Below.refl _ _).alloc (Nat.le_refl _) _
 rw [hw3] at bx bl ⊢
 rw [hab] at bx ⊢
 have HL3 := Veil.mk (And.intro HL2.out.1 (And.intro ((HL2.out.2.excl (E' := fun k => k = ab) (fun k hk => .inr (by omega))).on bl) bx))
 clear hab hw3 bx bl HL2 HAR
 obtain ⟨WD, hWD⟩ : ∃ WD, w3.drew = WD := ⟨_, rfl⟩
 have hdr : Below w3.heap.size w3 WD := by rw [<- hWD]; exact (Below.refl _ _).drew
 have HSD := Veil.mk (HL3.out.2.1.on hdr)
 have HXab := Veil.mk (HL3.out.2.2.below hdr)
 have HLT := Veil.mk HL3.out.1
 have HWD := Veil.mk hWD
 clear hWD hdr HL3
 obtain ⟨ys1, hys1⟩ : ∃ ys1 : Nat -> Vt, (fun i => if i < 0 then lx [] i else lx [((3, 4, ⟨#[]⟩) : Vt)] (i - 0)) = ys1 := ⟨_, rfl⟩
 have HP9 : Veil (PG WD.heap.size (LB w h A m ts 37 b 1 ys1 2 (fun k => k = ab) [(ab, VTy, #[.int .i64 fv.1, .int .i64 fv.2.1, .string fv.2.2])])) := ⟨LB.pg _ HSD.out.bel.size (by
  intro q hq
  simp only [List.mem_cons, List.not_mem_nil, or_false] at hq
  rcases hq with rfl
  exact HXab.out.lt)⟩
 have HC9 : Veil (∀ w' g9, Below WD.heap.size WD w' -> WD.heap.size <= g9 -> Box w' g9 VTy #[.int .i64 3, .int .i64 4, .string ⟨#[]⟩] -> Calls Tryz.prog 20 #[.pointer (some ⟨m, 0, none⟩), valV fv, .string ⟨#[112, 117, 115, 104]⟩, .slice (some ⟨g9, 0, none⟩) 1 1] w' fun e w9 => e = .returned (.tuple #[valV (3, 1, ⟨#[]⟩), .int .i64 0]) /\ LB w h A m ts 37 b 1 ys1 2 (fun k => k = ab) [(ab, VTy, #[.int .i64 fv.1, .int .i64 fv.2.1, .string fv.2.2])] (fun k => WD.heap.size <= k /\ k < w'.heap.size) w9 /\ (∀ g cs, WD.heap.size <= g -> Box w' g VTy cs -> Box w9 g VTy cs) /\ w'.heap.size <= w9.heap.size) := ⟨fun w' g9 hb hlo hbx => by
  subst hfv
  have hs := hb.size
  have hs2 := ((HSD.out.excl (E' := fun k => k = ab \/ WD.heap.size <= k) (fun k hk => hk)).on hb).excl (E' := fun k => (WD.heap.size <= k /\ k < w'.heap.size) \/ k = ab) (fun k hk => .inl (hk.elim (fun h9 => .inr h9.1) (fun h9 => .inl h9)))
  have hab := HXab.out.lt
  refine (hs2.ask HLT.out (fun k hk => by rcases hk with h9 | h9; exact h9.2; omega) (by decide) (by decide) 0 (by decide) ⟨#[112, 117, 115, 104]⟩ rfl (.slice (some ⟨g9, 0, none⟩) 1 1) [((3, 4, ⟨#[]⟩) : Vt)] (RowV.box [((3, 4, ⟨#[]⟩) : Vt)] 1 rfl hbx) (by decide) (fun k hk => .inl (by injection hk with hk; have hk : g9 = k := hk; have := hbx.lt; omega)) (3, 1, ⟨#[]⟩) 0 (st' := 2) (n' := 1) (ys := ys1) (fun W1 f1 V0 fo has hov hst hr hV => by
   have := push_hd (n := 0) (xs := lx []) HLT.out [((3, 4, ⟨#[]⟩) : Vt)] (by decide) (by decide) (by decide) (.slice (some ⟨g9, 0, none⟩) 1 1) W1 f1 V0 fo has hov hst hr hV
   rw [hys1] at this
   exact this)).mono ?_
  rintro e w9 ⟨he, h1, h2, h3⟩
  refine ⟨he, ⟨h1, fun q hq => ?_⟩, fun g cs hg hx => h2 g _ cs (by decide) (.inl ⟨hg, hx.lt⟩) hx, h3⟩
  simp only [List.mem_cons, List.not_mem_nil, or_false] at hq
  rcases hq with rfl
  exact h2 ab VTy _ (by decide) (.inr rfl) (HXab.out.below hb)⟩
 clear HSD HM1
 refine wp_region_chain [qp m 0, qv fv, qv (3, 4, ⟨#[]⟩), none, qq (.tuple #[valV (3, 1, ⟨#[]⟩), .int .i64 0]), qq (.tuple #[valV (3, 1, ⟨#[]⟩), .int .i64 0]), qv (3, 1, ⟨#[]⟩), qi 0, none, none, qi 0] (BR WD (LB w h A m ts 37 b 1 ys1 2 (fun k => k = ab) [(ab, VTy, #[.int .i64 fv.1, .int .i64 fv.2.1, .string fv.2.2])]) (3, 1, ⟨#[]⟩) #[.int .i64 3, .int .i64 4, .string ⟨#[]⟩] 3 4 8 9) [some 13, some 14, some 15, some 16, some 17, some 12, some 18, some 19, some 3, none, some 4] (curV' _ [some 13, some 14, some 15, some 16, some 17, some 12, some 18, some 19, some 3, none, some 4]) (by kernel_rfl) rfl rfl (puts_cur _ _) (by rw [HWD.out]; exact BR.start) ?_ (by kernel_rfl) ?_
 ·refine SY (fun _ S => ?_) ?_
  ·obtain ⟨⟩ := n11 S.hu
   rw [pin S.ha]
   go_simp
   exact S.kS 0 _ (S.hI.ph.pure 0 _ (by decide))
  refine SY (fun w' S => ?_) ?_
  ·obtain ⟨⟩ := n11 S.hu
   have hz := (S.hI.bwd [1] 4 1 (by kernel_rfl) rfl S.h0)
   have hbl := S.hI.ph.g.s0 hz
   have hq9 := HXab.out.below hbl
   have c0 : w'.cell? ⟨ab, 0, none⟩ = some (.int .i64 fv.1) := hq9.at_ 0
   have c1 : w'.cell? ⟨ab, 1, none⟩ = some (.int .i64 fv.2.1) := hq9.at_ 1
   have c2 : w'.cell? ⟨ab, 2, none⟩ = some (.string fv.2.2) := hq9.at_ 2
   clear hq9 hbl hz
   rw [pin S.ha]
   go_simp
   exact S.kS 1 _ (S.hI.ph.pure 1 _ (by decide))
  refine SY (fun _ S => ?_) ?_
  ·obtain ⟨⟩ := n11 S.hu
   rw [pin S.ha]
   go_simp
   go_at_call 19
   refine (num_any _ _).mono ?_
   rintro e9 w9 ⟨rfl, hm9⟩
   go_simp
   exact S.kS 2 _ (S.hI.ph.quiet HP9.out 2 _ (by decide) hm9)
  refine SY (fun _ S => ?_) ?_
  ·obtain ⟨⟩ := n11 S.hu
   obtain rfl := S.q 2
   rw [pin S.ha]
   go_simp
   exact S.kN 3 _ (S.hI.ph.row HP9.out (by decide))
  refine SY (fun w' S => ?_) ?_
  ·obtain ⟨_, _, _, u3⟩ := n11 S.hu
   obtain rfl := S.q 0
   obtain rfl := S.q 1
   have h18 := (S.hI.bwd [4] 9 4 (by kernel_rfl) rfl S.h0)
   have hbl := S.hI.ph.g.s0 S.h0
   have h3 := gen_after 3 (by kernel_rfl) S.hp
   obtain ⟨g9, hg9, hlo9, hbx9⟩ := S.hI.ph.r h3 S.h0
   replace hg9 : u3 = .slice (some ⟨g9, 0, none⟩) 1 1 := hg9
   subst hg9
   have HX9 := Veil.mk (HC9.out w' g9 hbl hlo9 hbx9)
   clear hbl hbx9 hlo9
   rw [pin S.ha]
   go_simp
   go_at_call 20
   refine HX9.out.mono ?_
   rintro e9 w9 ⟨rfl, hq9, hk9, hs9⟩
   go_simp
   exact S.kS 4 _ (S.hI.ph.call HP9.out (by decide) (by decide) h18 hq9 hk9 hs9 _)
  refine SY (fun _ S => ?_) ?_
  ·obtain ⟨⟩ := n11 S.hu
   obtain rfl := S.q 4
   rw [pin S.ha]
   go_simp
   exact S.kS 5 _ (S.hI.ph.pure 5 _ (by decide))
  refine SY (fun _ S => ?_) ?_
  ·obtain ⟨⟩ := n11 S.hu
   obtain rfl := S.q 5
   rw [pin S.ha]
   go_simp
   exact S.kS 6 _ (S.hI.ph.pure 6 _ (by decide))
  refine SY (fun _ S => ?_) ?_
  ·obtain ⟨⟩ := n11 S.hu
   obtain rfl := S.q 5
   rw [pin S.ha]
   go_simp
   exact S.kS 7 _ (S.hI.ph.pure 7 _ (by decide))
  refine SY (fun _ S => ?_) ?_
  ·obtain ⟨⟩ := n11 S.hu
   have h18 := (S.hI.bwd [8] 9 8 (by kernel_rfl) rfl S.h0)
   rw [pin S.ha]
   go_simp
   exact S.kN 8 _ (S.hI.ph.mk_ HP9.out (by decide) (by decide) (by decide) h18)
  refine SY (fun w' S => ?_) ?_
  ·obtain ⟨_, _, _, _, _, _, _, _, u8⟩ := n11 S.hu
   obtain rfl := S.q 6
   have h13 := (gen_after 4 (by kernel_rfl) S.hp)
   have h17 := gen_after 8 (by kernel_rfl) S.hp
   obtain ⟨g, hg, hlo, hz9, -⟩ := S.hI.ph.g.b h17
   replace hg : u8 = .pointer (some ⟨g, 0, none⟩) := hg
   subst hg
   have hzb := hz9 S.h0
   have z0 : w'.cell? ⟨g, 0, none⟩ = some (.int .i64 0) := hzb.at_ 0
   have z1 : w'.cell? ⟨g, 1, none⟩ = some (.int .i64 0) := hzb.at_ 1
   have z2 : w'.cell? ⟨g, 2, none⟩ = some (.string ⟨#[]⟩) := hzb.at_ 2
   have q0 := hzb.free 0
   have q1 := hzb.free 1
   have q2 := hzb.free 2
   clear hzb hz9
   rw [pin S.ha]
   go_simp
   exact S.kN 9 undef (S.hI.ph.sto HP9.out (by decide) (by decide) h13 h17 S.h0 rfl _)
  refine SY (fun _ S => ?_) ?_
  ·obtain ⟨⟩ := n11 S.hu
   obtain rfl := S.q 7
   rw [pin S.ha]
   go_simp
   exact S.kS 10 _ (S.hI.ph.pure 10 _ (by decide))
  exact Steps.nil
 ·intro us wE hus dd hD2 hJ
  obtain ⟨_, _, _, _, _, _, _, _, p8⟩ := n11 hus
  have hph := hJ.ph
  obtain rfl := hJ.vq 0 hD2
  obtain rfl := hJ.vq 1 hD2
  obtain rfl := hJ.vq 2 hD2
  obtain rfl := hJ.vq 4 hD2
  obtain rfl := hJ.vq 5 hD2
  obtain rfl := hJ.vq 6 hD2
  obtain rfl := hJ.vq 7 hD2
  obtain rfl := hJ.vq 10 hD2
  clear hJ
  obtain ⟨gv, hgv, hgl, -, hgb⟩ := hph.g.b (hD2 8 (by show 8 < 11; decide))
  replace hgv : p8 = .pointer (some ⟨gv, 0, none⟩) := hgv
  subst hgv
  have hgb := hgb (hD2 9 (by show 9 < 11; decide))
  have hdo := hph.g.s1 (hD2 4 (by show 4 < 11; decide))
  have hdo := HP9.out.excl _ (fun k => k = gv) _ hdo (fun k hk => .inl ⟨(hD2 8 (by show 8 < 11; decide)), by subst hk; rfl⟩)
  have HQ := Veil.mk (And.intro hdo (And.intro hgb hgl))
  clear hph hD2 hdo hgb hgl HP9 HC9 HWD
  simp only [puts, setAll, List.setIfInBounds_toArray, List.set_cons_zero, List.set_cons_succ]
  have HS6 := Veil.mk (HQ.out.1.s)
  have HB6 := Veil.mk (And.intro (HQ.out.1.l _ (List.mem_cons_self ..)) HQ.out.2.1)
  have hy0 : uh (ys1 0) = (3, 4, ⟨#[]⟩) := by rw [<- hys1]; rfl
  have HASK := Veil.mk (HS6.out.ask (st' := 3) (n' := 0) (ys := ys1) HLT.out (fun k hk => by rcases hk with h9 | h9; rw [h9]; exact HB6.out.2.lt; rw [h9]; exact HB6.out.1.lt) (by decide) (by decide) 1 (by decide) ⟨#[112, 111, 112]⟩ rfl (.slice none 0 0) [] (RowV.nil _) (by decide) (fun k hk => by cases hk) (3, 4, ⟨#[]⟩) 0 (fun W1 f1 V0 fo has hov hst hr hV => by
   have := pop_hd (n := 0) (xs := ys1) HLT.out (by decide) (.slice none 0 0) [] W1 f1 V0 fo has hov hst hr hV
   rw [hy0] at this
   exact this))
  rw [show ((9, ((37 : Nat) : Int) + 1, ⟨#[]⟩) : Vt) = fv from hfv] at HASK
  clear hy0 HQ HXab hys1
  have c0 : wE.cell? ⟨ab, 0, none⟩ = some (.int .i64 fv.1) := HB6.out.1.at_ 0
  have c1 : wE.cell? ⟨ab, 1, none⟩ = some (.int .i64 fv.2.1) := HB6.out.1.at_ 1
  have c2 : wE.cell? ⟨ab, 2, none⟩ = some (.string fv.2.2) := HB6.out.1.at_ 2
  go_upto_region 7 with (go_at_call 20; ((with_reducible refine HASK.out.mono ?_); rintro e w6 ⟨rfl, h6, hb6, -⟩; have HL6 := Veil.mk (And.intro h6 (And.intro (hb6 gv _ _ (by decide) (.inl rfl) HB6.out.2) (hb6 ab VTy _ (by decide) (.inr rfl) HB6.out.1))); clear h6 hb6))
  obtain ⟨pb, hpb⟩ : ∃ pb, w6.heap.size = pb := ⟨_, rfl⟩
  obtain ⟨w7, hw7⟩ : ∃ w7, w6.alloc (.cells #[.int .i64 3, .int .i64 4, .string ⟨#[]⟩] 28) = w7 := ⟨_, rfl⟩
  have bx := Box.new w6 28 #[.int .i64 3, .int .i64 4, .string ⟨#[]⟩]
  have bl : Below w6.heap.size w6 (w6.alloc (.cells #[.int .i64 3, .int .i64 4, .string ⟨#[]⟩] 28)) := (Below.refl _ _).alloc (Nat.le_refl _) _
  rw [hw7] at bx bl ⊢
  rw [hpb] at bx ⊢
  obtain ⟨WD, hWD⟩ : ∃ WD, w7.drew = WD := ⟨_, rfl⟩
  have hdr : Below w7.heap.size w7 WD := by rw [<- hWD]; exact (Below.refl _ _).drew
  have HR7 := Veil.mk (And.intro ((HL6.out.2.1.below bl).below hdr) (And.intro (bx.below hdr) (And.intro ((HL6.out.2.2.below bl).below hdr) ((HL6.out.1.on bl).on hdr))))
  have HWD := Veil.mk hWD
  clear hWD hdr hpb hw7 bx bl HL6 HB6 HS6 HASK c0 c1 c2
  have hx7 := HR7.out.2.2.2.x
  obtain ⟨ev7, na7, ca7, xs7, h71, h72, -⟩ := hx7
  obtain ⟨ao, cp, he7⟩ := h72.evs
  have hat : (ts.set 37 (TO.arr b 3 ev7))[37]? = some (TO.arr b 3 ev7) := List.getElem?_set_self HLT.out.lt
  have HOB : Veil (Box WD b 63 (objC 1 3 false (.pointer none) (.slice ao 0 cp))) := ⟨by rw [<- he7]; exact h71.mem_b (List.mem_of_getElem? hat) rfl⟩
  have HOF : Veil (∀ w9, Below WD.heap.size WD w9 -> Calls Tryz.prog 14 #[.pointer (some ⟨h, 0, none⟩), valV fv] w9 fun e w' => e = .returned (.pointer (some ⟨b, 0, none⟩)) /\ Below w9.heap.size w9 w') := ⟨fun w9 hb => by rw [<- hfv]; exact (h71.on hb).of_at hat rfl ⟨#[]⟩⟩
  clear h71 h72 he7 hat hfv
  have hDZ : ∀ z : BW w7, Below WD.heap.size WD z.w := fun z => by rw [<- HWD.out]; exact ⟨z.h.1, z.h.2, z.h.3, z.h.4, z.h.5⟩
  have c0_3 : ∀ z : BW w7, z.w.cell? ⟨gv, 0, none⟩ = some (.int .i64 3) := fun z => (HR7.out.1.below (hDZ z)).at_ 0
  have c1_3 : ∀ z : BW w7, z.w.cell? ⟨gv, 1, none⟩ = some (.int .i64 1) := fun z => (HR7.out.1.below (hDZ z)).at_ 1
  have c2_3 : ∀ z : BW w7, z.w.cell? ⟨gv, 2, none⟩ = some (.string ⟨#[]⟩) := fun z => (HR7.out.1.below (hDZ z)).at_ 2
  have c0_12 : ∀ z : BW w7, z.w.cell? ⟨pb, 0, none⟩ = some (.int .i64 3) := fun z => (HR7.out.2.1.below (hDZ z)).at_ 0
  have c1_12 : ∀ z : BW w7, z.w.cell? ⟨pb, 1, none⟩ = some (.int .i64 4) := fun z => (HR7.out.2.1.below (hDZ z)).at_ 1
  have c2_12 : ∀ z : BW w7, z.w.cell? ⟨pb, 2, none⟩ = some (.string ⟨#[]⟩) := fun z => (HR7.out.2.1.below (hDZ z)).at_ 2
  have c0_20 : ∀ z : BW w7, z.w.cell? ⟨m, 0, none⟩ = some (.pointer (some ⟨h, 0, none⟩)) := fun z => (HR7.out.2.2.2.on (hDZ z)).at0
  have c0_21 : ∀ z : BW w7, z.w.cell? ⟨ab, 0, none⟩ = some (.int .i64 fv.1) := fun z => (HR7.out.2.2.1.below (hDZ z)).at_ 0
  have c1_21 : ∀ z : BW w7, z.w.cell? ⟨ab, 1, none⟩ = some (.int .i64 fv.2.1) := fun z => (HR7.out.2.2.1.below (hDZ z)).at_ 1
  have c2_21 : ∀ z : BW w7, z.w.cell? ⟨ab, 2, none⟩ = some (.string fv.2.2) := fun z => (HR7.out.2.2.1.below (hDZ z)).at_ 2
  have c0_25 : ∀ z : BW w7, z.w.cell? ⟨b, 4, none⟩ = some (.slice ao 0 cp) := fun z => (HOB.out.below (hDZ z)).at_ 4
  have hNE := BW.ne w7
  refine wp_region_below (by kernel_rfl) (by kernel_rfl) ?_
  repeat (go_big_quiet_step (first | (go_at_call 19; with_reducible exact BW.on _ (num_any _ _)) | (go_at_call 14; with_reducible exact BW.on _ ((HOF.out _ (hDZ _))))))
  refine wpQuiet_nil ?_
  rintro _ ⟨z, rfl⟩
  have HQ := Veil.mk (hDZ z)
  obtain ⟨wE, hE2⟩ : ∃ wE, z.w = wE := ⟨_, rfl⟩
  rw [hE2] at HQ ⊢
  clear c0_3 c1_3 c2_3 c0_12 c1_12 c2_12 c0_20 c0_21 c1_21 c2_21 c0_25 hDZ hE2 z hNE
  have HQ7 := HQ
  clear HQ
  have hfin := HR7.out.2.2.2.bel.trans (HQ7.out.mono HR7.out.2.2.2.bel.size)
  clear HOF HOB
  go_wp2
  go_ret
  exact ⟨rfl, hfin⟩
def tvV (b : Bool) : Vt := if b = true then (2, 1, ⟨#[]⟩) else (2, 0, ⟨#[]⟩)
theorem Bk.setv {A : Nat} {W w : World} (H : Bk A W w) {g : Nat} (hg : W.heap.size <= g) (hA : A <= W.heap.size) (i : Nat) (u : Value) : Bk A W (w.setCell ⟨g, i, none⟩ u) :=
 ⟨H.bel.setCell (p := ⟨g, i, none⟩) (Nat.le_trans hA hg) u, fun k e he hl => by
  have hk := lab_lt hl
  rw [<- H.kv k e he hl]
  exact (Touch.put (S := fun k => k = g) (w := w) rfl i u).block k (Nat.lt_of_lt_of_le hk H.bel.size) (fun e => by have e : k = g := e; omega)⟩
theorem truth_v (b : Bool) (W : World) : Calls Tryz.prog 27 #[.bool b] W fun e w' => e = .returned (valV (tvV b)) /\ Below W.heap.size W w' := by
 obtain ⟨rb, hrb⟩ : ∃ rb, W.heap.size = rb := ⟨_, rfl⟩
 obtain ⟨W0, hW0⟩ : ∃ W0, (W.alloc (.cells #[.int .i64 0, .int .i64 0, .string ⟨#[]⟩] 28)) = W0 := ⟨_, rfl⟩
 have bb : Below W.heap.size W W0 := by rw [<- hW0]; exact ((Below.refl _ _).alloc (Nat.le_refl _) _)
 have xrb : Box W0 rb 28 #[.int .i64 0, .int .i64 0, .string ⟨#[]⟩] := by have h9 := Box.new W 28 #[.int .i64 0, .int .i64 0, .string ⟨#[]⟩]; rw [hW0, hrb] at h9; exact h9
 have HW0 := Veil.mk (And.intro hW0 (hrb))
 have HBB := Veil.mk (And.intro bb (xrb))
 have HLO : Veil (W.heap.size <= rb) := ⟨by omega⟩
 clear hW0 bb hrb xrb
 have z0 : W0.cell? ⟨rb, 0, none⟩ = some (.int .i64 0) := HBB.out.2.at_ 0; have z1 : W0.cell? ⟨rb, 1, none⟩ = some (.int .i64 0) := HBB.out.2.at_ 1; have z2 : W0.cell? ⟨rb, 2, none⟩ = some (.string ⟨#[]⟩) := HBB.out.2.at_ 2; have q0 := HBB.out.2.free 0; have q1 := HBB.out.2.free 1; have q2 := HBB.out.2.free 2
 have hrb : W.heap.size <= rb := HLO.out
 cases b
 ·go_enter Tryz.func27, Tryz.ntmps27
  go_upto_region 1 with (fail)
  rw [HW0.out.1, HW0.out.2]
  go_wp2
  have hr3 := ((HBB.out.2.put 0 (.int .i64 2)).put 1 (.int .i64 0)).put 2 (.string ⟨#[]⟩)
  have y0 := hr3.at_ 0
  have y1 := hr3.at_ 1
  have y2 := hr3.at_ 2
  exact bodyPost_ret (v := valV (2, 0, ⟨#[]⟩)) (by simp [results, Tryz.results27, go_sem, y0, y1, y2]) rfl ⟨rfl, ((HBB.out.1.setCell (p := ⟨rb, 0, none⟩) hrb _).setCell (p := ⟨rb, 1, none⟩) hrb _).setCell (p := ⟨rb, 2, none⟩) hrb _⟩
 ·go_enter Tryz.func27, Tryz.ntmps27
  go_upto_region 1 with (fail)
  rw [HW0.out.1, HW0.out.2]
  go_wp2
  have hr3 := ((HBB.out.2.put 0 (.int .i64 2)).put 1 (.int .i64 1)).put 2 (.string ⟨#[]⟩)
  have y0 := hr3.at_ 0
  have y1 := hr3.at_ 1
  have y2 := hr3.at_ 2
  exact bodyPost_ret (v := valV (2, 1, ⟨#[]⟩)) (by simp [results, Tryz.results27, go_sem, y0, y1, y2]) rfl ⟨rfl, ((HBB.out.1.setCell (p := ⟨rb, 0, none⟩) hrb _).setCell (p := ⟨rb, 1, none⟩) hrb _).setCell (p := ⟨rb, 2, none⟩) hrb _⟩
abbrev kVal : Vt := (7, 0, ⟨#[0, 118, 0, 97, 0, 108, 0, 117, 0, 101]⟩)
abbrev kDone : Vt := (7, 0, ⟨#[0, 100, 0, 111, 0, 110, 0, 101]⟩)
section
variable {W : World} {h A m : Nat} {f : MF} {ts : List TO}
theorem MP.result (H : MP W h A m f ts) (hf : f 0 = 1) (hl : ts.length < 99999) (v : Vt) (dn : Bool) :
  Calls Tryz.prog 366 #[.pointer (some ⟨m, 0, none⟩), valV v, .bool dn] W fun e w' => e = .returned (valV (9, (ts.length : Int) + 1, ⟨#[]⟩)) /\ ∃ ob pv F, MP w' h A m f (ts ++ [(⟨ob, 0, 1, pv, .slice none 0 0, .nilIface, kd0, F, [(kVal, v, 7), (kDone, tvV dn, 7)]⟩ : TO)]) /\ Bk A W w' := by
 obtain ⟨r, hr⟩ : ∃ r : Int, (ts.length : Int) + 1 = r := ⟨_, rfl⟩
 rw [hr]
 have hA := Nat.le_of_lt H.mm.alt
 obtain ⟨vb, hvb⟩ : ∃ vb, W.heap.size = vb := ⟨_, rfl⟩
 obtain ⟨rb, hrb⟩ : ∃ rb, vb + 1 = rb := ⟨_, rfl⟩
 obtain ⟨W0, hW0⟩ : ∃ W0, ((W.alloc (.cells #[.int .i64 v.1, .int .i64 v.2.1, .string v.2.2] 28)).alloc (.cells #[.int .i64 0, .int .i64 0, .string ⟨#[]⟩] 28)) = W0 := ⟨_, rfl⟩
 have bb : Below W.heap.size W W0 := by rw [<- hW0]; exact (((Below.refl _ _).alloc (Nat.le_refl _) _).alloc (by simp only [World.size_alloc]; omega) _)
 have xvb : Box W0 vb 28 #[.int .i64 v.1, .int .i64 v.2.1, .string v.2.2] := by have h9 := ((Box.new W 28 #[.int .i64 v.1, .int .i64 v.2.1, .string v.2.2]).more (.cells #[.int .i64 0, .int .i64 0, .string ⟨#[]⟩] 28)); rw [hW0, hvb] at h9; exact h9
 have xrb : Box W0 rb 28 #[.int .i64 0, .int .i64 0, .string ⟨#[]⟩] := by have h9 := Box.new (W.alloc (.cells #[.int .i64 v.1, .int .i64 v.2.1, .string v.2.2] 28)) 28 #[.int .i64 0, .int .i64 0, .string ⟨#[]⟩]; rw [hW0, show (W.alloc (.cells #[.int .i64 v.1, .int .i64 v.2.1, .string v.2.2] 28)).heap.size = rb from by simp only [World.size_alloc]; omega] at h9; exact h9
 have HW0 := Veil.mk (And.intro hW0 (And.intro hvb (hrb)))
 have HBB := Veil.mk (And.intro bb (And.intro xvb (xrb)))
 have HLO : Veil (W.heap.size <= vb /\ W.heap.size <= rb) := ⟨by omega⟩
 clear hW0 bb hvb xvb hrb xrb
 have HP0 := Veil.mk (H.on HBB.out.1)
 have hBk0 := Bk.of_below hA HBB.out.1
 have HK0 := Veil.mk hBk0
 have HPR : Veil (Calls Tryz.prog 37 #[.pointer (some ⟨m, 0, none⟩), .int .i64 0] W0 fun e w' => e = .returned (.int .i64 1) /\ w' = W0) := ⟨HP0.out.protoN 0 (by decide) (by rw [hf]; rfl)⟩
 have hcr := HP0.out.create 0 1 rfl (by omega)
 rw [hr] at hcr
 have HCR := Veil.mk hcr
 have HLN := Veil.mk hl
 have HAA := Veil.mk hA
 clear H hf hr hcr hl hA hBk0
 go_enter Tryz.func366, Tryz.ntmps366
 go_upto_region 1 with (fail)
 rw [HW0.out.1, HW0.out.2.1, HW0.out.2.2]
 go_upto_region 4 with (first | (go_at_call 37; ((with_reducible refine HPR.out.mono ?_); rintro e w1 ⟨rfl, h1⟩; subst w1)) | (go_at_call 36; ((with_reducible refine HCR.out.mono ?_); rintro e w2 ⟨rfl, hm2, hb2⟩; have HM2 := Veil.mk (And.intro hm2 (And.intro (HK0.out.trans hb2) (And.intro (hb2.boxE HBB.out.2.1 (by decide)) (hb2.boxE HBB.out.2.2 (by decide))))); clear hm2 hb2)))
 obtain ⟨ob, hob⟩ : ∃ ob, W0.heap.size = ob := ⟨_, rfl⟩
 rw [hob] at HM2 ⊢
 have HO1 : Veil (Calls Tryz.prog 105 #[.pointer (some ⟨m, 0, none⟩), .pointer (some ⟨ob, 0, none⟩), .string ⟨#[118, 97, 108, 117, 101]⟩, valV v, .int .i64 7] w2 fun e w' => e = .returned (.tuple #[]) /\ ∃ pv F, MP w' h A m f (ts ++ [(⟨ob, 0, 1, pv, .slice none 0 0, .nilIface, kd0, F, [(kVal, v, 7)]⟩ : TO)]) /\ Bk A w2 w') := ⟨HM2.out.1.own rfl (by show 0 < 40000; decide) (.pointer (some ⟨m, 0, none⟩)) ⟨#[118, 97, 108, 117, 101]⟩ [0, 118, 0, 97, 0, 108, 0, 117, 0, 101] (.inl rfl) 7 v (by decide) (by decide +kernel) (by decide) rfl rfl⟩
 have c0 : w2.cell? ⟨vb, 0, none⟩ = some (.int .i64 v.1) := HM2.out.2.2.1.at_ 0
 have c1 : w2.cell? ⟨vb, 1, none⟩ = some (.int .i64 v.2.1) := HM2.out.2.2.1.at_ 1
 have c2 : w2.cell? ⟨vb, 2, none⟩ = some (.string v.2.2) := HM2.out.2.2.1.at_ 2
 clear HPR HCR hob
 go_upto_region 5 with (go_at_call 105; ((with_reducible refine HO1.out.mono ?_); rintro e w3 ⟨rfl, pv1, F1, hm3, hb3⟩; have HM3 := Veil.mk (And.intro hm3 (And.intro (HM2.out.2.1.trans hb3) (hb3.boxE HM2.out.2.2.2 (by decide)))); clear hm3 hb3))
 clear c0 c1 c2 HO1 HM2
 have HTR := Veil.mk (truth_v dn w3)
 obtain ⟨u, hu⟩ : ∃ u, tvV dn = u := ⟨_, rfl⟩
 rw [hu] at HTR
 have HO2 : Veil (∀ w4, Below w3.heap.size w3 w4 -> Calls Tryz.prog 105 #[.pointer (some ⟨m, 0, none⟩), .pointer (some ⟨ob, 0, none⟩), .string ⟨#[100, 111, 110, 101]⟩, valV u, .int .i64 7] w4 fun e w' => e = .returned (.tuple #[]) /\ ∃ pv F, MP w' h A m f (ts ++ [(⟨ob, 0, 1, pv, .slice none 0 0, .nilIface, kd0, F, [(kVal, v, 7), (kDone, tvV dn, 7)]⟩ : TO)]) /\ Bk A w4 w') := ⟨fun w4 hb => by
  have h4 := HM3.out.1.on hb
  rw [hu]
  exact h4.own rfl (by show 1 < 40000; decide) (.pointer (some ⟨m, 0, none⟩)) ⟨#[100, 111, 110, 101]⟩ [0, 100, 0, 111, 0, 110, 0, 101] (.inl rfl) 7 u (by decide) (by decide +kernel) (by decide) (by show (decide (kVal ≠ kDone) && true) = true; decide +kernel) rfl⟩
 clear hu
 go_wp2_with (first | (go_at_call 27; ((with_reducible refine HTR.out.mono ?_); rintro e w4 ⟨rfl, hb4⟩; have HB4 := Veil.mk hb4; have HO3 := Veil.mk (HO2.out w4 hb4); clear hb4)) | (go_at_call 105; ((with_reducible refine HO3.out.mono ?_); rintro e w5 ⟨rfl, pv2, F2, hm5, hb5⟩; have HM5 := Veil.mk (And.intro hm5 (And.intro (HM3.out.2.1.trans ((Bk.of_below (Nat.le_of_lt HM3.out.1.mm.alt) HB4.out).trans hb5)) (hb5.boxE (HM3.out.2.2.below HB4.out) (by decide)))); clear hm5 hb5)) | (go_at_call 23; ((with_reducible refine (object_mk _ _).mono ?_); rintro e w6 ⟨rfl, hb6⟩; have HM6 := Veil.mk (And.intro (HM5.out.1.on hb6) (And.intro (HM5.out.2.1.trans (Bk.of_below (Nat.le_of_lt HM5.out.1.mm.alt) hb6)) (HM5.out.2.2.below hb6))); clear hb6; have z0 : w6.cell? ⟨rb, 0, none⟩ = some (.int .i64 0) := HM6.out.2.2.at_ 0; have z1 : w6.cell? ⟨rb, 1, none⟩ = some (.int .i64 0) := HM6.out.2.2.at_ 1; have z2 : w6.cell? ⟨rb, 2, none⟩ = some (.string ⟨#[]⟩) := HM6.out.2.2.at_ 2; have q0 := HM6.out.2.2.free 0; have q1 := HM6.out.2.2.free 1; have q2 := HM6.out.2.2.free 2)))
 have hr3 := ((HM6.out.2.2.put 0 (.int .i64 9)).put 1 (.int .i64 r)).put 2 (.string ⟨#[]⟩)
 have y0 := hr3.at_ 0
 have y1 := hr3.at_ 1
 have y2 := hr3.at_ 2
 have hp3 := ((HM6.out.1.putv HM6.out.2.2.lab 0 (.int .i64 9)).putv (HM6.out.2.2.put 0 _).lab 1 (.int .i64 r)).putv ((HM6.out.2.2.put 0 _).put 1 _).lab 2 (.string ⟨#[]⟩)
 have hk3 := ((HM6.out.2.1.setv HLO.out.2 HAA.out 0 (.int .i64 9)).setv HLO.out.2 HAA.out 1 (.int .i64 r)).setv HLO.out.2 HAA.out 2 (.string ⟨#[]⟩)
 exact bodyPost_ret (v := valV (9, r, ⟨#[]⟩)) (by simp [results, Tryz.results366, go_sem, y0, y1, y2]) rfl ⟨rfl, ob, pv2, F2, hp3, hk3⟩
end
abbrev TO.wkr (b : Nat) (kd : Int) (sl : Value) (at_ : Int) : TO := ⟨b, 5, 12, .pointer none, .slice none 0 0, .nilIface, ⟨kd, sl, at_, false⟩, fun _ => False, []⟩
structure WKS (WD : World) (ob : Nat) (kd : Int) (v : Vt) (d : Nat -> Bool) (us : Nat -> Value) (w : World) : Prop where
 t : Touch (fun k => k = ob) WD w
 b : Box w ob 63 (objF 5 12 false (.pointer none) (.slice none 0 0) .nilIface ⟨if d 7 = true then kd else 0, if d 10 = true then us 4 else .slice none 0 0, 0, false⟩)
 r : d 4 = true -> ∃ g, us 4 = .slice (some ⟨g, 0, none⟩) 1 1 /\ WD.heap.size <= g /\ Box w g VTy #[.int .i64 v.1, .int .i64 v.2.1, .string v.2.2]
section
variable {WD w : World} {ob : Nat} {kd : Int} {v : Vt} {d : Nat -> Bool} {us : Nat -> Value}
theorem WKS.pure (H : WKS WD ob kd v d us w) (i : Nat) (x : Value) (hi : 4 ≠ i /\ 7 ≠ i /\ 10 ≠ i) : WKS WD ob kd v (upd d i true) (upd us i x) w := by
 refine ⟨H.t, ?_, fun e => ?_⟩
 ·rw [upd_ne _ _ hi.2.1, upd_ne _ _ hi.2.2, upd_ne _ _ hi.1]
  exact H.b
 ·rw [upd_ne _ _ hi.1] at e
  rw [upd_ne _ _ hi.1]
  exact H.r e
theorem WKS.row (H : WKS WD ob kd v d us w) (_h4 : d 4 = false) (h10 : d 10 = false) : WKS WD ob kd v (upd d 4 true) (upd us 4 (.slice (some ⟨w.heap.size, 0, none⟩) 1 1)) (w.alloc (.cells #[.int .i64 v.1, .int .i64 v.2.1, .string v.2.2] VTy)) := by
 refine ⟨H.t.trans (Touch.of_below ((Below.refl _ _).alloc (Nat.le_refl _) _)), ?_, fun _ => ⟨w.heap.size, upd_same _ _ _, H.t.size, Box.new w VTy _⟩⟩
 have hb := H.b.more (.cells #[.int .i64 v.1, .int .i64 v.2.1, .string v.2.2] VTy)
 rw [h10] at hb
 rw [upd_ne _ _ (by decide), upd_ne _ _ (by decide), h10]
 exact hb
theorem WKS.st7 (H : WKS WD ob kd v d us w) (_h7 : d 7 = false) : WKS WD ob kd v (upd d 7 true) (upd us 7 undef) (w.setCell ⟨ob, 13, none⟩ (.int .i64 kd)) := by
 have hb := H.b.put 13 (.int .i64 kd)
 refine ⟨H.t.trans (Touch.put (S := fun k => k = ob) rfl _ _), ?_, fun e => ?_⟩
 ·rw [upd_same, upd_ne _ _ (by decide), upd_ne _ _ (by decide)]
  exact hb
 ·rw [upd_ne _ _ (by decide)] at e
  rw [upd_ne _ _ (by decide)]
  obtain ⟨g, a, b, c⟩ := H.r e
  refine ⟨g, a, b, c.touch (Touch.put (S := fun k => k = ob) rfl _ _) (fun e9 => ?_)⟩
  exact (c.other H.b (by decide)) e9
theorem WKS.st10 (H : WKS WD ob kd v d us w) (_h10 : d 10 = false) {sl : Value} (hs : us 4 = sl) : WKS WD ob kd v (upd d 10 true) (upd us 10 undef) (w.setCell ⟨ob, 5, none⟩ sl) := by
 have hb := H.b.put 5 sl
 refine ⟨H.t.trans (Touch.put (S := fun k => k = ob) rfl _ _), ?_, fun e => ?_⟩
 ·rw [upd_same, upd_ne _ _ (by decide), upd_ne _ _ (by decide), hs]
  exact hb
 ·rw [upd_ne _ _ (by decide)] at e
  rw [upd_ne _ _ (by decide)]
  obtain ⟨g, a, b, c⟩ := H.r e
  refine ⟨g, a, b, c.touch (Touch.put (S := fun k => k = ob) rfl _ _) (fun e9 => ?_)⟩
  exact (c.other H.b (by decide)) e9
theorem WKS.start (h : Box WD ob 63 (objC 5 12 false (.pointer none) (.slice none 0 0))) : WKS WD ob kd v (fun _ => false) us WD := ⟨Touch.refl _ _, h, fun e => by cases e⟩
end
section
variable {W : World} {h A m : Nat} {f : MF} {ts : List TO}
theorem MP.walker (H : MP W h A m f ts) (hf : f 11 = 12) (hl : ts.length < 99999) (kd : Int) (v : Vt) :
  Calls Tryz.prog 15 #[.pointer (some ⟨m, 0, none⟩), .int .i64 kd, valV v] W fun e w' => e = .returned (valV (9, (ts.length : Int) + 1, ⟨#[]⟩)) /\ ∃ ob g, MP w' h A m f (ts ++ [TO.wkr ob kd (.slice (some ⟨g, 0, none⟩) 1 1) 0]) /\ Box w' g VTy #[.int .i64 v.1, .int .i64 v.2.1, .string v.2.2] /\ W.heap.size <= g /\ Bk A W w' := by
 obtain ⟨r, hr⟩ : ∃ r : Int, (ts.length : Int) + 1 = r := ⟨_, rfl⟩
 rw [hr]
 have hA := Nat.le_of_lt H.mm.alt
 obtain ⟨tb, htb⟩ : ∃ tb, W.heap.size = tb := ⟨_, rfl⟩
 obtain ⟨rb, hrb⟩ : ∃ rb, tb + 1 = rb := ⟨_, rfl⟩
 obtain ⟨W0, hW0⟩ : ∃ W0, ((W.alloc (.cells #[.int .i64 v.1, .int .i64 v.2.1, .string v.2.2] 28)).alloc (.cells #[.int .i64 0, .int .i64 0, .string ⟨#[]⟩] 28)) = W0 := ⟨_, rfl⟩
 have bb : Below W.heap.size W W0 := by rw [<- hW0]; exact (((Below.refl _ _).alloc (Nat.le_refl _) _).alloc (by simp only [World.size_alloc]; omega) _)
 have xtb : Box W0 tb 28 #[.int .i64 v.1, .int .i64 v.2.1, .string v.2.2] := by have h9 := ((Box.new W 28 #[.int .i64 v.1, .int .i64 v.2.1, .string v.2.2]).more (.cells #[.int .i64 0, .int .i64 0, .string ⟨#[]⟩] 28)); rw [hW0, htb] at h9; exact h9
 have xrb : Box W0 rb 28 #[.int .i64 0, .int .i64 0, .string ⟨#[]⟩] := by have h9 := Box.new (W.alloc (.cells #[.int .i64 v.1, .int .i64 v.2.1, .string v.2.2] 28)) 28 #[.int .i64 0, .int .i64 0, .string ⟨#[]⟩]; rw [hW0, show (W.alloc (.cells #[.int .i64 v.1, .int .i64 v.2.1, .string v.2.2] 28)).heap.size = rb from by simp only [World.size_alloc]; omega] at h9; exact h9
 have HW0 := Veil.mk (And.intro hW0 (And.intro htb (hrb)))
 have HBB := Veil.mk (And.intro bb (And.intro xtb (xrb)))
 have HLO : Veil (W.heap.size <= tb /\ W.heap.size <= rb) := ⟨by omega⟩
 clear hW0 bb htb xtb hrb xrb
 have HP0 := Veil.mk (H.on HBB.out.1)
 have HAA := Veil.mk hA
 have HLF := Veil.mk (And.intro hf (And.intro hl hr))
 clear H hf hr hl hA
 go_enter Tryz.func15, Tryz.ntmps15
 go_upto_region 3 with (fail)
 rw [HW0.out.1, HW0.out.2.1, HW0.out.2.2]
 obtain ⟨WD, hWD⟩ : ∃ WD, W0.drew = WD := ⟨_, rfl⟩
 have HBF : Veil (Below W.heap.size W WD) := ⟨by rw [<- hWD]; exact HBB.out.1.drew⟩
 have HXtb : Veil (Box WD tb 28 #[.int .i64 v.1, .int .i64 v.2.1, .string v.2.2]) := ⟨by rw [<- hWD]; exact HBB.out.2.1.drew⟩
 have HXrb : Veil (Box WD rb 28 #[.int .i64 0, .int .i64 0, .string ⟨#[]⟩]) := ⟨by rw [<- hWD]; exact HBB.out.2.2.drew⟩
 have HWD := Veil.mk hWD
 clear hWD HBB
 have hdW : Below W0.heap.size W0 WD := by rw [<- HWD.out]; exact (Below.refl _ _).drew
 have hmd := HP0.out.on hdW
 have HC0 : Veil (WD.cell? ⟨m, 0, none⟩ = some (.pointer (some ⟨h, 0, none⟩)) /\ WD.cell? ⟨m, 12, none⟩ = some (.int .i64 12)) := ⟨hmd.mm.mb.at_ 0, by have := hmd.mm.mb.at_ (1 + 11); rw [machV_at _ _ _ 11 (by decide), HLF.out.1] at this; exact this⟩
 obtain ⟨ob, hob⟩ : ∃ ob, WD.heap.size = ob := ⟨_, rfl⟩
 have hmk := hmd.make 5 12 rfl (by have := HLF.out.2.1; omega)
 rw [HLF.out.2.2, hob] at hmk
 obtain ⟨P1, hP1⟩ : ∃ P1 : World -> Prop, P1 = fun w' => MP w' h A m f (ts ++ [TO.plain ob 5 12 (.slice none 0 0)]) /\ Bk A WD w' := ⟨_, rfl⟩
 have HMK : Veil (Calls Tryz.prog 31 #[.pointer (some ⟨h, 0, none⟩), .int .i64 5, .int .i64 12] WD fun e w' => e = .returned (.tuple #[.int .i64 r, .pointer (some ⟨ob, 0, none⟩)]) /\ P1 w') := ⟨by rw [hP1]; exact hmk⟩
 have HP1 := Veil.mk hP1
 have HAD : Veil (A <= WD.heap.size) := ⟨Nat.le_of_lt hmd.mm.alt⟩
 have HOB0 : Veil (W.heap.size <= ob) := ⟨by rw [<- hob]; exact HBF.out.size⟩
 clear hdW hmd hmk hP1 hob HP0 HW0
 refine wp_region_chain [qp m 0, qp m 0, qp m 0, qp h 0, qp m 0, qp m 0, qp m 1, qp m 12, qi 12, qq (.tuple #[.int .i64 r, .pointer (some ⟨ob, 0, none⟩)]), qq (.tuple #[.int .i64 r, .pointer (some ⟨ob, 0, none⟩)]), qi r, qp ob 0, qi r, qp ob 0] (LPh [9] (SqSt WD [P1])) [some 13, some 14, some 15, some 16, some 17, some 18, some 19, some 20, some 21, some 22, some 12, some 23, some 24, some 7, some 8] (curV' _ [some 13, some 14, some 15, some 16, some 17, some 18, some 19, some 20, some 21, some 22, some 12, some 23, some 24, some 7, some 8]) (by kernel_rfl) rfl rfl (puts_cur _ _) (LPh.start (show W0.drew = WD from HWD.out)) ?_ (by kernel_rfl) ?_
 ·refine SY (fun _ S => ?_) ?_
  ·obtain ⟨⟩ := n15 S.hu
   rw [pin S.ha]
   go_simp
   exact S.kL 0
  refine SY (fun _ S => ?_) ?_
  ·obtain ⟨⟩ := n15 S.hu
   obtain rfl := S.q 0
   rw [pin S.ha]
   go_simp
   exact S.kL 1
  refine SY (fun _ S => ?_) ?_
  ·obtain ⟨⟩ := n15 S.hu
   obtain rfl := S.q 1
   rw [pin S.ha]
   go_simp
   exact S.kL 2
  refine SY (fun w' S => ?_) ?_
  ·obtain ⟨⟩ := n15 S.hu
   obtain rfl := S.q 2
   have gb := (S.hI.bwd [3] 9 3 (by kernel_rfl) rfl S.h0)
   have hst := S.hI.ph.btw1 0 (.inl rfl) (.inr ⟨9, rfl, gb⟩)
   have hst' : WD = w' := (show w' = WD from hst).symm
   clear hst
   subst hst'
   have c0 := HC0.out.1
   clear gb
   rw [pin S.ha]
   go_simp
   exact S.kL 3
  refine SY (fun _ S => ?_) ?_
  ·obtain ⟨⟩ := n15 S.hu
   rw [pin S.ha]
   go_simp
   exact S.kL 4
  refine SY (fun _ S => ?_) ?_
  ·obtain ⟨⟩ := n15 S.hu
   obtain rfl := S.q 4
   rw [pin S.ha]
   go_simp
   exact S.kL 5
  refine SY (fun _ S => ?_) ?_
  ·obtain ⟨⟩ := n15 S.hu
   obtain rfl := S.q 5
   rw [pin S.ha]
   go_simp
   exact S.kL 6
  refine SY (fun _ S => ?_) ?_
  ·obtain ⟨⟩ := n15 S.hu
   obtain rfl := S.q 6
   rw [pin S.ha]
   go_simp
   exact S.kL 7
  refine SY (fun w' S => ?_) ?_
  ·obtain ⟨⟩ := n15 S.hu
   obtain rfl := S.q 7
   have gb := (S.hI.bwd [8] 9 8 (by kernel_rfl) rfl S.h0)
   have hst := S.hI.ph.btw1 0 (.inl rfl) (.inr ⟨9, rfl, gb⟩)
   have hst' : WD = w' := (show w' = WD from hst).symm
   clear hst
   subst hst'
   have c12 := HC0.out.2
   clear gb
   rw [pin S.ha]
   go_simp
   exact S.kL 8
  refine SY (fun w' S => ?_) ?_
  ·obtain ⟨⟩ := n15 S.hu
   obtain rfl := S.q 3
   obtain rfl := S.q 8
   have gb := S.h0
   have hst := S.hI.ph.btw1 0 (.inl rfl) (.inr ⟨9, rfl, gb⟩)
   have hst' : WD = w' := (show w' = WD from hst).symm
   clear hst
   subst hst'
   clear gb
   rw [pin S.ha]
   go_simp
   go_at_call 31
   refine (HMK.out).mono ?_
   rintro e9 w9 ⟨rfl, hm9⟩
   go_simp
   exact S.kS 9 _ (S.hI.ph.next 0 9 _ rfl S.h0 (.inl rfl) (by decide) (hm9))
  refine SY (fun _ S => ?_) ?_
  ·obtain ⟨⟩ := n15 S.hu
   obtain rfl := S.q 9
   rw [pin S.ha]
   go_simp
   exact S.kL 10
  refine SY (fun _ S => ?_) ?_
  ·obtain ⟨⟩ := n15 S.hu
   obtain rfl := S.q 10
   rw [pin S.ha]
   go_simp
   exact S.kL 11
  refine SY (fun _ S => ?_) ?_
  ·obtain ⟨⟩ := n15 S.hu
   obtain rfl := S.q 10
   rw [pin S.ha]
   go_simp
   exact S.kL 12
  refine SY (fun _ S => ?_) ?_
  ·obtain ⟨⟩ := n15 S.hu
   obtain rfl := S.q 11
   rw [pin S.ha]
   go_simp
   exact S.kL 13
  refine SY (fun _ S => ?_) ?_
  ·obtain ⟨⟩ := n15 S.hu
   obtain rfl := S.q 12
   rw [pin S.ha]
   go_simp
   exact S.kL 14
  exact Steps.nil
 ·intro us wE hus dd hD2 hJ
  obtain ⟨p0, p1, p2, p3, p4, p5, p6, p7, p8, p9, p10⟩ := n15 hus
  have q1 := hJ.ph.all (fun c hc => hD2 c (by
   have : c = 9 := by simpa using hc
   show c < 15
   omega))
  obtain rfl := hJ.vq 0 hD2
  obtain rfl := hJ.vq 1 hD2
  obtain rfl := hJ.vq 2 hD2
  obtain rfl := hJ.vq 3 hD2
  obtain rfl := hJ.vq 4 hD2
  obtain rfl := hJ.vq 5 hD2
  obtain rfl := hJ.vq 6 hD2
  obtain rfl := hJ.vq 7 hD2
  obtain rfl := hJ.vq 8 hD2
  obtain rfl := hJ.vq 9 hD2
  obtain rfl := hJ.vq 10 hD2
  obtain rfl := hJ.vq 11 hD2
  obtain rfl := hJ.vq 12 hD2
  obtain rfl := hJ.vq 13 hD2
  obtain rfl := hJ.vq 14 hD2
  clear hJ hD2
  have HQ := Veil.mk (show P1 wE from q1)
  clear q1
  simp only [puts, setAll, List.setIfInBounds_toArray, List.set_cons_zero, List.set_cons_succ]
  rw [HP1.out] at HQ
  have bkE : Bk A W wE := (Bk.of_below HAA.out HBF.out).trans HQ.out.2
  have HXE := Veil.mk (And.intro (HQ.out.2.boxE HXtb.out (by decide)) (HQ.out.2.boxE HXrb.out (by decide)))
  have HBE := Veil.mk bkE
  have HME := Veil.mk HQ.out.1
  clear bkE HQ HXtb HXrb HBF HMK HC0 HWD HP1 HAD
  go_upto_region 6 with (fail)
  obtain ⟨WX, hWX⟩ : ∃ WX, wE.drew = WX := ⟨_, rfl⟩
  have hdr : Below wE.heap.size wE WX := by rw [<- hWX]; exact (Below.refl _ _).drew
  have HMX := Veil.mk (HME.out.on hdr)
  have HXtb := Veil.mk (HXE.out.1.below hdr)
  have HXrb := Veil.mk (HXE.out.2.below hdr)
  have HBX := Veil.mk (HBE.out.trans (Bk.of_below (Nat.le_of_lt HME.out.mm.alt) hdr))
  have hpl : (ts ++ [TO.plain ob 5 12 (.slice none 0 0)])[ts.length]? = some (TO.plain ob 5 12 (.slice none 0 0)) := by rw [List.getElem?_append_right (Nat.le_refl _), Nat.sub_self]; rfl
  have HPL := Veil.mk hpl
  have HOB : Veil (Box WX ob 63 (objC 5 12 false (.pointer none) (.slice none 0 0))) := ⟨HMX.out.mem_b (List.mem_of_getElem? hpl) rfl⟩
  have HNE : Veil (¬ tb = ob) := ⟨HXtb.out.other HOB.out (by decide)⟩
  have HNX : Veil True := ⟨trivial⟩
  have HWX := Veil.mk hWX
  clear hWX hdr hpl HXE HME HBE
  refine wp_region_chain [qp ob 0, qp ob 0, qi kd, qv v, none, qp ob 0, qp ob 13, none, qp ob 0, qp ob 5, none] (WKS WX ob kd v) [some 28, some 29, some 30, some 31, some 32, some 33, some 34, none, some 35, some 36, none] (curV' _ [some 28, some 29, some 30, some 31, some 32, some 33, some 34, none, some 35, some 36, none]) (by kernel_rfl) rfl rfl (puts_cur _ _) (by rw [HWX.out]; exact WKS.start HOB.out) ?_ (by kernel_rfl) ?_
  ·refine SY (fun _ S => ?_) ?_
   ·obtain ⟨⟩ := n11 S.hu
    rw [pin S.ha]
    go_simp
    exact S.kS 0 _ (S.hI.ph.pure 0 _ (by decide))
   refine SY (fun _ S => ?_) ?_
   ·obtain ⟨⟩ := n11 S.hu
    rw [pin S.ha]
    go_simp
    exact S.kS 1 _ (S.hI.ph.pure 1 _ (by decide))
   refine SY (fun _ S => ?_) ?_
   ·obtain ⟨⟩ := n11 S.hu
    rw [pin S.ha]
    go_simp
    exact S.kS 2 _ (S.hI.ph.pure 2 _ (by decide))
   refine SY (fun w' S => ?_) ?_
   ·obtain ⟨⟩ := n11 S.hu
    have hq9 := HXtb.out.touch S.hI.ph.t HNE.out
    have c0 : w'.cell? ⟨tb, 0, none⟩ = some (.int .i64 v.1) := hq9.at_ 0
    have c1 : w'.cell? ⟨tb, 1, none⟩ = some (.int .i64 v.2.1) := hq9.at_ 1
    have c2 : w'.cell? ⟨tb, 2, none⟩ = some (.string v.2.2) := hq9.at_ 2
    clear hq9
    rw [pin S.ha]
    go_simp
    exact S.kS 3 _ (S.hI.ph.pure 3 _ (by decide))
   refine SY (fun _ S => ?_) ?_
   ·obtain ⟨⟩ := n11 S.hu
    obtain rfl := S.q 3
    have hz := (S.hI.bwd [4] 10 4 (by kernel_rfl) rfl S.h0)
    rw [pin S.ha]
    go_simp
    exact S.kN 4 _ (S.hI.ph.row S.h0 hz)
   refine SY (fun _ S => ?_) ?_
   ·obtain ⟨⟩ := n11 S.hu
    obtain rfl := S.q 0
    rw [pin S.ha]
    go_simp
    exact S.kS 5 _ (S.hI.ph.pure 5 _ (by decide))
   refine SY (fun _ S => ?_) ?_
   ·obtain ⟨⟩ := n11 S.hu
    obtain rfl := S.q 5
    rw [pin S.ha]
    go_simp
    exact S.kS 6 _ (S.hI.ph.pure 6 _ (by decide))
   refine SY (fun w' S => ?_) ?_
   ·obtain ⟨⟩ := n11 S.hu
    obtain rfl := S.q 6
    obtain rfl := S.q 2
    have f0 := S.hI.ph.b.free 13
    have c0 : w'.cell? ⟨ob, 13, none⟩ = some _ := S.hI.ph.b.at_ 13
    rw [pin S.ha]
    go_simp
    exact S.kN 7 undef (S.hI.ph.st7 S.h0)
   refine SY (fun _ S => ?_) ?_
   ·obtain ⟨⟩ := n11 S.hu
    obtain rfl := S.q 1
    rw [pin S.ha]
    go_simp
    exact S.kS 8 _ (S.hI.ph.pure 8 _ (by decide))
   refine SY (fun _ S => ?_) ?_
   ·obtain ⟨⟩ := n11 S.hu
    obtain rfl := S.q 8
    rw [pin S.ha]
    go_simp
    exact S.kS 9 _ (S.hI.ph.pure 9 _ (by decide))
   refine SY (fun w' S => ?_) ?_
   ·obtain ⟨_, _, _, _, u4⟩ := n11 S.hu
    obtain rfl := S.q 9
    have h4 := gen_after 4 (by kernel_rfl) S.hp
    obtain ⟨g9, hg9, -, -⟩ := S.hI.ph.r h4
    replace hg9 : u4 = .slice (some ⟨g9, 0, none⟩) 1 1 := hg9
    subst hg9
    have f0 := S.hI.ph.b.free 5
    have c0 : w'.cell? ⟨ob, 5, none⟩ = some _ := S.hI.ph.b.at_ 5
    rw [pin S.ha]
    go_simp
    exact S.kN 10 undef (S.hI.ph.st10 S.h0 rfl)
   exact Steps.nil
  ·intro us wE hus dd hD2 hJ
   obtain ⟨p0, p1, p2, p3, p4, p5, p6, p7, p8, p9, p10, rfl⟩ := lenA11 hus
   have hph := hJ.ph
   obtain rfl := hJ.vq 0 hD2
   obtain rfl := hJ.vq 1 hD2
   obtain rfl := hJ.vq 2 hD2
   obtain rfl := hJ.vq 3 hD2
   obtain rfl := hJ.vq 5 hD2
   obtain rfl := hJ.vq 6 hD2
   obtain rfl := hJ.vq 8 hD2
   obtain rfl := hJ.vq 9 hD2
   clear hJ
   obtain ⟨g9, hg9, hlo9, hbx9⟩ := hph.r (hD2 4 (by show 4 < 11; decide))
   replace hg9 : p4 = .slice (some ⟨g9, 0, none⟩) 1 1 := hg9
   subst hg9
   have hob9 := hph.b
   rw [(hD2 7 (by show 7 < 11; decide)), (hD2 10 (by show 10 < 11; decide))] at hob9
   have HQ6 := Veil.mk (And.intro hph.t (And.intro hob9 (And.intro hlo9 hbx9)))
   clear hph hD2 hob9 hlo9 hbx9
   simp only [puts, setAll, List.setIfInBounds_toArray, List.set_cons_zero, List.set_cons_succ]
   have hst := HMX.out.stepV_at (V := fun _ => False) (W' := wE) HPL.out rfl (.pointer none) (.slice none 0 0) .nilIface ⟨kd, .slice (some ⟨g9, 0, none⟩) 1 1, 0, false⟩ (fun _ => False) [] (fun k hk => hk.elim) (HQ6.out.1.mono (fun k hk => .inl hk)) HQ6.out.2.1 (.inl ⟨rfl, rfl, rfl⟩) (fun k hk => hk.elim)
   rw [List.set_append_right _ _ (Nat.le_refl _), Nat.sub_self] at hst
   have hbk6 : Bk A W wE := HBX.out.trans ⟨hst.2.bel, fun k e he hl => hst.2.kv k e he hl (fun h => h)⟩
   have HS6 := Veil.mk (And.intro hst.1 (And.intro hbk6 (HXrb.out.touch HQ6.out.1 (HXrb.out.other HOB.out (by decide)))))
   have HG6 := Veil.mk (And.intro HQ6.out.2.2.2 (Nat.le_trans HBX.out.bel.size HQ6.out.2.2.1))
   have HGR : Veil (g9 ≠ rb) := ⟨fun e => by have h1 := HXrb.out.lt; have h2 := HQ6.out.2.2.1; omega⟩
   clear hst hbk6 HQ6 HXtb HXrb HMX HPL HOB HNE HNX HWX HBX
   go_wp2_with (go_at_call 23; ((with_reducible refine (object_mk _ _).mono ?_); rintro e w6 ⟨rfl, hb6⟩; have HM6 := Veil.mk (And.intro (HS6.out.1.on hb6) (And.intro (HS6.out.2.1.trans (Bk.of_below (Nat.le_of_lt HS6.out.1.mm.alt) hb6)) (HS6.out.2.2.below hb6))); have HG7 := Veil.mk (HG6.out.1.below hb6); clear hb6; have z0 : w6.cell? ⟨rb, 0, none⟩ = some (.int .i64 0) := HM6.out.2.2.at_ 0; have z1 : w6.cell? ⟨rb, 1, none⟩ = some (.int .i64 0) := HM6.out.2.2.at_ 1; have z2 : w6.cell? ⟨rb, 2, none⟩ = some (.string ⟨#[]⟩) := HM6.out.2.2.at_ 2; have q0 := HM6.out.2.2.free 0; have q1 := HM6.out.2.2.free 1; have q2 := HM6.out.2.2.free 2))
   have hr3 := ((HM6.out.2.2.put 0 (.int .i64 9)).put 1 (.int .i64 r)).put 2 (.string ⟨#[]⟩)
   have y0 := hr3.at_ 0
   have y1 := hr3.at_ 1
   have y2 := hr3.at_ 2
   have hp3 := ((HM6.out.1.putv HM6.out.2.2.lab 0 (.int .i64 9)).putv (HM6.out.2.2.put 0 _).lab 1 (.int .i64 r)).putv ((HM6.out.2.2.put 0 _).put 1 _).lab 2 (.string ⟨#[]⟩)
   have hk3 := ((HM6.out.2.1.setv HLO.out.2 HAA.out 0 (.int .i64 9)).setv HLO.out.2 HAA.out 1 (.int .i64 r)).setv HLO.out.2 HAA.out 2 (.string ⟨#[]⟩)
   have hgr := HGR.out
   have hbg := ((HG7.out.touch (Touch.put (S := fun k => k = rb) rfl 0 (.int .i64 9)) hgr).touch (Touch.put (S := fun k => k = rb) rfl 1 (.int .i64 r)) hgr).touch (Touch.put (S := fun k => k = rb) rfl 2 (.string ⟨#[]⟩)) hgr
   exact bodyPost_ret (v := valV (9, r, ⟨#[]⟩)) (by simp [results, Tryz.results15, go_sem, y0, y1, y2]) rfl ⟨rfl, ob, g9, hp3, hbg, HG6.out.2, hk3⟩
end
section
variable {W : World} {h A m : Nat} {f : MF} {ts : List TO}
end
section
variable {W : World} {h A m : Nat} {f : MF} {ts : List TO}
end
section
variable {W : World} {h A m : Nat} {f : MF} {ts ts1 : List TO}
end
section
variable {W : World} {h A m : Nat} {f : MF} {ts ts1 : List TO}
end
section
variable {W : World} {h A m : Nat} {f : MF}
theorem do_next (hA : A <= W.heap.size) (T : List TO -> Prop) (fo : Nat) (this tgt x : Vt) (en : Int) (args : Value)
  (HN : Veil (∀ w', Below W.heap.size W w' -> Calls Tryz.prog 352 #[.pointer (some ⟨m, 0, none⟩), valV this] w' fun e w9 => e = .returned (.tuple #[valV x, .int .i64 en]) /\ ∃ ts1, T ts1 /\ MP w9 h A m f ts1 /\ Bk A w' w9)) :
  Calls Tryz.prog 348 #[.pointer (some ⟨m, 0, none⟩), .int .i64 164, callV fo this args tgt] W fun e w' => e = .returned (.tuple #[valV x, .int .i64 en]) /\ ∃ ts1, T ts1 /\ MP w' h A m f ts1 /\ Bk A W w' := by
 obtain ⟨cb, hcb⟩ : ∃ cb, W.heap.size = cb := ⟨_, rfl⟩
 obtain ⟨rb, hrb⟩ : ∃ rb, cb + 1 = rb := ⟨_, rfl⟩
 obtain ⟨W0, hW0⟩ : ∃ W0, ((W.alloc (.cells #[.pointer (some ⟨fo, 0, none⟩), .int .i64 this.1, .int .i64 this.2.1, .string this.2.2, args, .int .i64 tgt.1, .int .i64 tgt.2.1, .string tgt.2.2] CTy)).alloc (.cells #[.int .i64 0, .int .i64 0, .string ⟨#[]⟩] VTy)) = W0 := ⟨_, rfl⟩
 have bb : Below W.heap.size W W0 := by rw [<- hW0]; exact (((Below.refl _ _).alloc (Nat.le_refl _) _).alloc (by simp only [World.size_alloc]; omega) _)
 have xcb : Box W0 cb CTy #[.pointer (some ⟨fo, 0, none⟩), .int .i64 this.1, .int .i64 this.2.1, .string this.2.2, args, .int .i64 tgt.1, .int .i64 tgt.2.1, .string tgt.2.2] := by have h9 := ((Box.new W CTy #[.pointer (some ⟨fo, 0, none⟩), .int .i64 this.1, .int .i64 this.2.1, .string this.2.2, args, .int .i64 tgt.1, .int .i64 tgt.2.1, .string tgt.2.2]).more (.cells #[.int .i64 0, .int .i64 0, .string ⟨#[]⟩] VTy)); rw [hW0, hcb] at h9; exact h9
 have xrb : Box W0 rb VTy #[.int .i64 0, .int .i64 0, .string ⟨#[]⟩] := by have h9 := Box.new (W.alloc (.cells #[.pointer (some ⟨fo, 0, none⟩), .int .i64 this.1, .int .i64 this.2.1, .string this.2.2, args, .int .i64 tgt.1, .int .i64 tgt.2.1, .string tgt.2.2] CTy)) VTy #[.int .i64 0, .int .i64 0, .string ⟨#[]⟩]; rw [hW0, show (W.alloc (.cells #[.pointer (some ⟨fo, 0, none⟩), .int .i64 this.1, .int .i64 this.2.1, .string this.2.2, args, .int .i64 tgt.1, .int .i64 tgt.2.1, .string tgt.2.2] CTy)).heap.size = rb from by simp only [World.size_alloc]; omega] at h9; exact h9
 have HW0 := Veil.mk (And.intro hW0 (And.intro hcb (hrb)))
 have HBB := Veil.mk (And.intro bb (And.intro xcb (xrb)))
 have HLO : Veil (W.heap.size <= cb /\ W.heap.size <= rb) := ⟨by omega⟩
 clear hW0 bb hcb xcb hrb xrb
 have HN0 := Veil.mk (HN.out W0 HBB.out.1)
 have HAA := Veil.mk hA
 have HB0 := Veil.mk (Bk.of_below hA HBB.out.1)
 have c1 : W0.cell? ⟨cb, 1, none⟩ = some (.int .i64 this.1) := HBB.out.2.1.at_ 1
 have c2 : W0.cell? ⟨cb, 2, none⟩ = some (.int .i64 this.2.1) := HBB.out.2.1.at_ 2
 have c3 : W0.cell? ⟨cb, 3, none⟩ = some (.string this.2.2) := HBB.out.2.1.at_ 3
 clear HN hA
 go_enter Tryz.func348, Tryz.ntmps348
 go_upto_region 1 with (fail)
 rw [HW0.out.1, HW0.out.2.1, HW0.out.2.2]
 go_wp2_with (go_at_call 352; ((with_reducible refine HN0.out.mono ?_); rintro e w6 ⟨rfl, ts1, ht6, hm6, hb6⟩; have HM6 := Veil.mk (And.intro hm6 (And.intro (HB0.out.trans hb6) (And.intro (hb6.boxE HBB.out.2.2 (by decide)) ht6))); clear hm6 hb6 ht6; have z0 : w6.cell? ⟨rb, 0, none⟩ = some (.int .i64 0) := HM6.out.2.2.1.at_ 0; have z1 : w6.cell? ⟨rb, 1, none⟩ = some (.int .i64 0) := HM6.out.2.2.1.at_ 1; have z2 : w6.cell? ⟨rb, 2, none⟩ = some (.string ⟨#[]⟩) := HM6.out.2.2.1.at_ 2; have q0 := HM6.out.2.2.1.free 0; have q1 := HM6.out.2.2.1.free 1; have q2 := HM6.out.2.2.1.free 2))
 have hr3 := ((HM6.out.2.2.1.put 0 (.int .i64 x.1)).put 1 (.int .i64 x.2.1)).put 2 (.string x.2.2)
 have y0 := hr3.at_ 0
 have y1 := hr3.at_ 1
 have y2 := hr3.at_ 2
 have hp3 := ((HM6.out.1.putv HM6.out.2.2.1.lab 0 (.int .i64 x.1)).putv (HM6.out.2.2.1.put 0 _).lab 1 (.int .i64 x.2.1)).putv ((HM6.out.2.2.1.put 0 _).put 1 _).lab 2 (.string x.2.2)
 have hk3 := ((HM6.out.2.1.setv HLO.out.2 HAA.out 0 (.int .i64 x.1)).setv HLO.out.2 HAA.out 1 (.int .i64 x.2.1)).setv HLO.out.2 HAA.out 2 (.string x.2.2)
 exact bodyPost_ret (v := (.tuple #[valV x, .int .i64 en])) (by simp [results, Tryz.results348, go_sem, y0, y1, y2]) rfl ⟨rfl, ts1, HM6.out.2.2.2, hp3, hk3⟩
end
structure LawW (ts : List TO) (iw o : Nat) (kd : Int) (sl : Value) (at_ : Int) : Prop where
 wk : ts[iw]? = some (TO.wkr o kd sl at_)
 ge : 37 <= iw
 p0 : ∃ t, ts[0]? = some t /\ PlT t 0 []
 p11 : ∃ t, ts[11]? = some t /\ PlT t 0 e11W
 fn : ∃ t, ts[36]? = some t /\ t.cl = 2 /\ t.fn = (.iface 167 (.agg #[.bool false])) /\ t.kd.k = 164
theorem LawW.more {ts : List TO} {iw o : Nat} {kd at_ : Int} {sl : Value} (L : LawW ts iw o kd sl at_) (t : TO) : LawW (ts ++ [t]) iw o kd sl at_ := by
 have key : ∀ (k : Nat) u, ts[k]? = some u -> (ts ++ [t])[k]? = some u := fun k u hu => by
  rw [List.getElem?_append_left (List.getElem?_eq_some_iff.1 hu).1]
  exact hu
 obtain ⟨t0, a1, a2⟩ := L.p0
 obtain ⟨t1, h1, h2⟩ := L.p11
 obtain ⟨t3, h3, h4⟩ := L.fn
 exact ⟨key _ _ L.wk, L.ge, ⟨t0, key _ _ a1, a2⟩, ⟨t1, key _ _ h1, h2⟩, ⟨t3, key _ _ h3, h4⟩⟩
theorem LawW.set {ts : List TO} {iw o : Nat} {kd at_ at2 : Int} {sl sl2 : Value} (L : LawW ts iw o kd sl at_) : LawW (ts.set iw (TO.wkr o kd sl2 at2)) iw o kd sl2 at2 := by
 have hge := L.ge
 obtain ⟨t0, a1, a2⟩ := L.p0
 obtain ⟨t1, h1, h2⟩ := L.p11
 obtain ⟨t3, h3, h4⟩ := L.fn
 have hlt := (List.getElem?_eq_some_iff.1 L.wk).1
 have h36 : iw ≠ 36 := by omega
 have h11 : iw ≠ 11 := by omega
 have h00 : iw ≠ 0 := by omega
 exact ⟨List.getElem?_set_self hlt, hge, ⟨t0, by rw [List.getElem?_set_ne h00]; exact a1, a2⟩, ⟨t1, by rw [List.getElem?_set_ne h11]; exact h1, h2⟩, ⟨t3, by rw [List.getElem?_set_ne h36]; exact h3, h4⟩⟩
abbrev mfG (G : List (Nat × TypeId × Array Value)) (st : Int) (na ca : Value) : MF := { mfW with st := st, na := na, ca := ca, gh := G }
structure LW (w : World) (G : List (Nat × TypeId × Array Value)) (h A m : Nat) (ts : List TO) (g : Nat) (cs : Array Value) (st : Int) (E : Nat -> Prop) (w' : World) : Prop where
 x : ∃ na ca, MP w' h A m (mfG G st na ca) ts /\ Rest w' A (mfG G st na ca) /\ (∀ k, VCf (mfG G st na ca) k -> ¬ E k /\ k ≠ g) /\ Box w' g VTy cs /\ ¬ E g
 bel : Below w.heap.size w w'
 lo : w.heap.size <= A
section
variable {w W W' : World} {G : List (Nat × TypeId × Array Value)} {h A m g : Nat} {ts : List TO} {cs : Array Value} {E : Nat -> Prop} {st : Int}
end
abbrev nxB : ByteArray := ⟨#[110, 101, 120, 116]⟩
abbrev kNx : Vt := (7, 0, ⟨#[0, 110, 0, 101, 0, 120, 0, 116]⟩)
theorem val_nx (w : World) : Calls Tryz.prog 44 #[.string nxB] w fun e w' => e = .returned (valV kNx) /\ Below w.heap.size w w' :=
 W.val_const _ [0, 110, 0, 101, 0, 120, 0, 116] (by decide) (show Hid _ from (by decide +kernel : W.ofB ⟨#[110, 101, 120, 116]⟩ = [0, 110, 0, 101, 0, 120, 0, 116])) w
theorem look_e11 : lookO e11W kNx = ((9, 37, ⟨#[]⟩), 5, true) := by kernel_rfl
section
variable {w W W' : World} {G : List (Nat × TypeId × Array Value)} {h A m g : Nat} {ts : List TO} {cs : Array Value} {E : Nat -> Prop} {st : Int}
end
section
variable {h A m g iw o i n : Nat} {ts : List TO} {kd : Int} {s z : ByteArray} {cp : Int}
end
theorem val_value (w : World) : Calls Tryz.prog 44 #[.string ⟨#[118, 97, 108, 117, 101]⟩] w fun e w' => e = .returned (valV kVal) /\ Below w.heap.size w w' :=
 W.val_const _ [0, 118, 0, 97, 0, 108, 0, 117, 0, 101] (by decide) (show Hid _ from (by decide +kernel : W.ofB ⟨#[118, 97, 108, 117, 101]⟩ = [0, 118, 0, 97, 0, 108, 0, 117, 0, 101])) w
theorem val_done (w : World) : Calls Tryz.prog 44 #[.string ⟨#[100, 111, 110, 101]⟩] w fun e w' => e = .returned (valV kDone) /\ Below w.heap.size w w' :=
 W.val_const _ [0, 100, 0, 111, 0, 110, 0, 101] (by decide) (show Hid _ from (by decide +kernel : W.ofB ⟨#[100, 111, 110, 101]⟩ = [0, 100, 0, 111, 0, 110, 0, 101])) w
theorem look_val (v : Vt) (d : Vt) : lookO [(kVal, v, 7), (kDone, d, 7)] kVal = (v, 7, true) := by
 unfold lookO
 rw [List.find?_cons_of_pos (by simp)]
theorem look_done (v : Vt) (d : Vt) : lookO [(kVal, v, 7), (kDone, d, 7)] kDone = (d, 7, true) := by
 unfold lookO
 rw [List.find?_cons_of_neg (by show ¬ (decide (kVal = kDone) = true); decide +kernel), List.find?_cons_of_pos (by simp)]
section
variable {W : World} {h A m : Nat} {f : MF} {ts : List TO}
theorem MP.part (H : MP W h A m f ts) (hl : ts.length < 100000) {ir : Nat} {t t0 : TO} (ht : ts[ir]? = some t) (hcl : t.cl = 0) (hpr : t.proto = 1) (h0 : ts[0]? = some t0) (hp0 : PlT t0 0 []) (nm : ByteArray) (k v : Vt) (hlk : lookO t.O k = (v, 7, true)) (hk6 : keyT k = k) (hks : k.2.2.size <= 1000)
  (HV : ∀ w, Calls Tryz.prog 44 #[.string nm] w fun e w' => e = .returned (valV k) /\ Below w.heap.size w w') :
  Calls Tryz.prog 21 #[.pointer (some ⟨m, 0, none⟩), valV (9, (ir : Int) + 1, ⟨#[]⟩), .string nm] W fun e w' => e = .returned (.tuple #[valV v, .int .i64 0]) /\ Below W.heap.size W w' := by
 obtain ⟨p1, p2, p3, p4, p5, p6⟩ := hp0
 refine member_w W m (9, (ir : Int) + 1, ⟨#[]⟩) k v nm ⟨fun W' => HV W'⟩ ⟨fun W' hb => ?_⟩
 refine getkey_w W' m _ _ _ rfl ⟨fun W2 hb2 => ?_⟩
 have H2 := H.on (hb.trans (hb2.mono hb.size))
 refine getfrom_w W2 m h _ 7 true _ _ _ (by decide) (H2.mm.mb.at_ 0) H2.mm.mb.lt ⟨fun W4 hb4 => ?_⟩
 have H4 := H2.on hb4
 have ho1 := H4.ownT ht (by rw [hcl]; rfl) k (.inl (by rw [hcl]; rfl)) hk6 hks
 have ho2 := H4.ownT h0 (by rw [p1]; rfl) k (.inl (by rw [p1]; rfl)) hk6 hks
 rw [hlk] at ho1
 exact H4.find2 (by omega) ir 0 t t0 ht h0 (by rw [hcl]; rfl) (by rw [p1]; rfl) (by rw [hpr]; rfl) p2 _ _ _ ho1 ho2
end
end Go.Proofs.YtahkohfppakaiaaGreatDoor
namespace Go.Proofs.YtahkohfppakaiaaGreatDoor.W
open Go Go.RowKit
attribute [local go_sem] Oper.semAt_some
end Go.Proofs.YtahkohfppakaiaaGreatDoor.W
namespace Go.Proofs.YtahkohfppakaiaaGreatDoor
open Go Go.RowKit
attribute [local go_sem] Oper.semAt_some
section
variable {w W W' : World} {G : List (Nat × TypeId × Array Value)} {h A m g iw o i : Nat} {ts : List TO} {E : Nat -> Prop} {st kd : Int} {s : ByteArray}
end
end Go.Proofs.YtahkohfppakaiaaGreatDoor
namespace Go.Proofs.YtahkohfppakaiaaGreatDoor
open Go Go.RowKit
end Go.Proofs.YtahkohfppakaiaaGreatDoor
namespace Go.Proofs.YtahkohfppakaiaaGreatDoor
open Go Go.RowKit
attribute [local go_sem] Oper.semAt_some
theorem true_false (W : World) : Calls Tryz.prog 22 #[valV (tvV false)] W fun e w' => e = .returned (.bool false) /\ Below W.heap.size W w' := by
 rw [show tvV false = ((2, 0, ⟨#[]⟩) : Vt) from rfl]
 obtain ⟨xb, hxb⟩ : ∃ xb, W.heap.size = xb := ⟨_, rfl⟩
 obtain ⟨W0, hW0⟩ : ∃ W0, (W.alloc (.cells #[.int .i64 2, .int .i64 0, .string ⟨#[]⟩] 28)) = W0 := ⟨_, rfl⟩
 have bb : Below W.heap.size W W0 := by rw [<- hW0]; exact ((Below.refl _ _).alloc (Nat.le_refl _) _)
 have xxb : Box W0 xb 28 #[.int .i64 2, .int .i64 0, .string ⟨#[]⟩] := by have h9 := Box.new W 28 #[.int .i64 2, .int .i64 0, .string ⟨#[]⟩]; rw [hW0, hxb] at h9; exact h9
 have HW0 := Veil.mk (And.intro hW0 (hxb))
 have HBB := Veil.mk (And.intro bb (xxb))
 have HLO : Veil (W.heap.size <= xb) := ⟨by omega⟩
 clear hW0 bb hxb xxb
 have c0 : W0.cell? ⟨xb, 0, none⟩ = some (.int .i64 2) := HBB.out.2.at_ 0
 have c1 : W0.cell? ⟨xb, 1, none⟩ = some (.int .i64 0) := HBB.out.2.at_ 1
 go_enter Tryz.func22, Tryz.ntmps22
 go_upto_region 1 with (fail)
 rw [HW0.out.1, HW0.out.2]
 go_wp2
 go_ret
 exact ⟨rfl, HBB.out.1⟩
theorem true_true (W : World) : Calls Tryz.prog 22 #[valV (tvV true)] W fun e w' => e = .returned (.bool true) /\ Below W.heap.size W w' := by
 rw [show tvV true = ((2, 1, ⟨#[]⟩) : Vt) from rfl]
 obtain ⟨xb, hxb⟩ : ∃ xb, W.heap.size = xb := ⟨_, rfl⟩
 obtain ⟨W0, hW0⟩ : ∃ W0, (W.alloc (.cells #[.int .i64 2, .int .i64 1, .string ⟨#[]⟩] 28)) = W0 := ⟨_, rfl⟩
 have bb : Below W.heap.size W W0 := by rw [<- hW0]; exact ((Below.refl _ _).alloc (Nat.le_refl _) _)
 have xxb : Box W0 xb 28 #[.int .i64 2, .int .i64 1, .string ⟨#[]⟩] := by have h9 := Box.new W 28 #[.int .i64 2, .int .i64 1, .string ⟨#[]⟩]; rw [hW0, hxb] at h9; exact h9
 have HW0 := Veil.mk (And.intro hW0 (hxb))
 have HBB := Veil.mk (And.intro bb (xxb))
 have HLO : Veil (W.heap.size <= xb) := ⟨by omega⟩
 clear hW0 bb hxb xxb
 have c0 : W0.cell? ⟨xb, 0, none⟩ = some (.int .i64 2) := HBB.out.2.at_ 0
 have c1 : W0.cell? ⟨xb, 1, none⟩ = some (.int .i64 1) := HBB.out.2.at_ 1
 go_enter Tryz.func22, Tryz.ntmps22
 go_upto_region 1 with (fail)
 rw [HW0.out.1, HW0.out.2]
 go_wp2
 go_ret
 exact ⟨rfl, HBB.out.1⟩
theorem true_v (d : Bool) (W : World) : Calls Tryz.prog 22 #[valV (tvV d)] W fun e w' => e = .returned (.bool d) /\ Below W.heap.size W w' := by
 cases d
 ·exact true_false W
 ·exact true_true W
section
variable {w W : World} {G : List (Nat × TypeId × Array Value)} {h A m g iw o ob ir : Nat} {ts : List TO} {cs : Array Value} {E : Nat -> Prop} {st kd at_ : Int} {sl pv : Value} {F : Nat -> Prop} {v : Vt} {d : Bool}
end
end Go.Proofs.YtahkohfppakaiaaGreatDoor
namespace Go.Proofs.YtahkohfppakaiaaGreatDoor
open Go Go.RowKit
section
variable {w W : World} {G : List (Nat × TypeId × Array Value)} {h A m g iw o i : Nat} {ts : List TO} {E : Nat -> Prop} {st kd : Int} {l : List Nat}
end
end Go.Proofs.YtahkohfppakaiaaGreatDoor
namespace Go.Proofs.YtahkohfppakaiaaGreatDoor
open Go Go.RowKit
attribute [local go_sem] Oper.semAt_some
theorem own_stay {w w' : World} {B n size : Nat} {v : Value} {xs : List Value} {T : TypeId} (h : w.ownsRow B T size v n xs) (hk : ∀ b c, v.ownBlock = some b -> Box w b T c -> Box w' b T c) : w'.ownsRow B T size v n xs := own_blk h (fun k hk2 => by
 rcases h.2 with ⟨h1, -⟩ | ⟨g, cap, cur, e1, e2, e3, -⟩
 ·rw [h1] at hk2
  cases hk2
 ·rw [e1] at hk2
  cases hk2
  exact (hk g cur (by rw [e1]; rfl) e3).trans e3.symm)
structure AskSt (B0 m : Nat) (wv : Vt) (vs : List Vt) (P : Nat -> (Nat -> Prop) -> World -> Prop) : Prop where
 on : ∀ {j E W W'}, P j E W -> Below W.heap.size W W' -> P j E W'
 excl : ∀ {j E W} {E' : Nat -> Prop}, P j E W -> (∀ k, E' k -> E k \/ W.heap.size <= k) -> P j E' W
 touch : ∀ {j E S W W'}, P j E W -> Touch S W W' -> (∀ k, S k -> E k /\ B0 <= k /\ Lab W k VTy) -> P j E W'
 ask : ∀ {j E W}, P j E W -> j <= vs.length -> (∀ k, E k -> k < W.heap.size) -> Calls Tryz.prog 20 #[.pointer (some ⟨m, 0, none⟩), valV wv, .string ⟨#[110, 101, 120, 116]⟩, .slice none 0 0] W fun e w' => ∃ r v d, e = .returned (.tuple #[valV r, .int .i64 0]) /\ (j < vs.length -> d = false /\ vs[j]? = some v) /\ (j = vs.length -> d = true /\ v = zV) /\ P (j + 1) E w' /\ (∀ w9, Below w'.heap.size w' w9 -> Calls Tryz.prog 21 #[.pointer (some ⟨m, 0, none⟩), valV r, .string ⟨#[100, 111, 110, 101]⟩] w9 fun e w' => e = .returned (.tuple #[valV (tvV d), .int .i64 0]) /\ Below w9.heap.size w9 w') /\ (∀ w9, Below w'.heap.size w' w9 -> Calls Tryz.prog 21 #[.pointer (some ⟨m, 0, none⟩), valV r, .string ⟨#[118, 97, 108, 117, 101]⟩] w9 fun e w' => e = .returned (.tuple #[valV v, .int .i64 0]) /\ Below w9.heap.size w9 w') /\ (∀ b t c, t ∈ kvL -> E b -> Box W b t c -> Box w' b t c) /\ W.heap.size <= w'.heap.size
structure AL (P : Nat -> (Nat -> Prop) -> World -> Prop) (W : World) (E0 : Nat -> Prop) (vs : List Vt) (Bo tb : Nat) (fv : Vt) (j : Nat) (rv : Value) (wr : World) : Prop where
 p : P j (fun k => E0 k \/ k = tb \/ rv.ownBlock = some k) wr
 tb : Box wr tb VTy #[.int .i64 fv.1, .int .i64 fv.2.1, .string fv.2.2]
 row : wr.ownsRow Bo VTy 3 rv j (flatV (vs.take j))
 jl : j <= vs.length
 sz : Bo <= wr.heap.size
 bx : ∀ b t c, t ∈ kvL -> E0 b -> Box W b t c -> Box wr b t c
section
variable {P : Nat -> (Nat -> Prop) -> World -> Prop} {W : World} {B0 m : Nat} {fv : Vt} {vs : List Vt} {E0 : Nat -> Prop}
theorem AL.next (S : AskSt B0 m fv vs P) {Bo tb j : Nat} {v : Vt} {u6 : Value} {wr w2 w8 w9 : World} (H : AL P W E0 vs Bo tb fv j u6 wr) (hE0 : ∀ k, E0 k -> k < W.heap.size) (hWB : W.heap.size <= Bo) (hB0 : B0 <= Bo) (htb : tb < Bo) (hv : vs[j]? = some v)
  (hp : P (j + 1) (fun k => E0 k \/ k = tb \/ u6.ownBlock = some k) w2) (hbx : ∀ b t c, t ∈ kvL -> (E0 b \/ b = tb \/ u6.ownBlock = some b) -> Box wr b t c -> Box w2 b t c) (hs2 : wr.heap.size <= w2.heap.size) (hb8 : Below w2.heap.size w2 w8) {g cap : Nat} (hown : w9.ownsRow Bo VTy 3 (.slice (some ⟨g, 0, none⟩) (j + 1) cap) (j + 1) (flatV (vs.take j) ++ [.int .i64 v.1, .int .i64 v.2.1, .string v.2.2])) (hg : (w8.alloc (.cells #[.int .i64 v.1, .int .i64 v.2.1, .string v.2.2] VTy)).grownBy w9 u6.ownBlock) (hgb : u6.ownBlock = some g \/ g = (w8.alloc (.cells #[.int .i64 v.1, .int .i64 v.2.1, .string v.2.2] VTy)).heap.size) :
  AL P W E0 vs Bo tb fv (j + 1) (.slice (some ⟨g, 0, none⟩) (j + 1) cap) w9 := by
 have hrow2 : w2.ownsRow Bo VTy 3 u6 j (flatV (vs.take j)) := own_stay H.row (fun b c h1 h2 => hbx b VTy c (by decide) (.inr (.inr h1)) h2)
 have hrow8 := own_below hrow2 hb8
 have ht : Touch (fun k => u6.ownBlock = some k) w8 w9 := (Touch.of_below ((Below.refl _ _).alloc (Nat.le_refl _) _)).trans (Touch.of_grown hg (fun k hk => hk))
 have hlt : j < vs.length := (List.getElem?_eq_some_iff.1 hv).1
 have h28 := hb8.size
 have h89 := ht.size
 refine ⟨?_, ?_, ?_, hlt, by have := H.sz; omega, fun b t c h1 h2 h3 => ?_⟩
 ·have p8 := S.excl (E' := fun k => (E0 k \/ k = tb \/ u6.ownBlock = some k) \/ w8.heap.size <= k) (S.on hp hb8) (fun k hk => hk)
  have p9 := S.touch p8 ht (fun k hk => ⟨.inl (.inr (.inr hk)), by have := (own_lt hrow8 k hk).1; omega, own_lab hrow8 k hk⟩)
  refine S.excl p9 (fun k hk => .inl ?_)
  rcases hk with hk | hk | hk
  ·exact .inl (.inl hk)
  ·exact .inl (.inr (.inl hk))
  ·have hk : some g = some k := hk
   injection hk with hk
   subst hk
   rcases hgb with h9 | h9
   ·exact .inl (.inr (.inr h9))
   ·rw [World.size_alloc] at h9
    exact .inr (by omega)
 ·exact ((hbx tb VTy _ (by decide) (.inr (.inl rfl)) H.tb).below hb8).touch ht (fun hk => by have := (own_lt hrow8 tb hk).1; omega)
 ·have e : flatV (vs.take (j + 1)) = flatV (vs.take j) ++ [.int .i64 v.1, .int .i64 v.2.1, .string v.2.2] := by
   rw [List.take_add_one, hv]
   unfold flatV
   rw [List.flatMap_append]
   rfl
  rw [e]
  exact hown
 ·exact ((hbx b t c h1 (.inl h2) (H.bx b t c h1 h2 h3)).below hb8).touch ht (fun hk => by have := (own_lt hrow8 b hk).1; have := hE0 b h2; omega)
theorem AL.fin (S : AskSt B0 m fv vs P) {Bo tb j : Nat} {u6 : Value} {wr w2 w9 : World} (H : AL P W E0 vs Bo tb fv j u6 wr) (hWB : W.heap.size <= Bo) (hj : j = vs.length) (hp : P (j + 1) (fun k => E0 k \/ k = tb \/ u6.ownBlock = some k) w2) (hbx : ∀ b t c, t ∈ kvL -> (E0 b \/ b = tb \/ u6.ownBlock = some b) -> Box wr b t c -> Box w2 b t c) (hs2 : wr.heap.size <= w2.heap.size) (hb : Below w2.heap.size w2 w9) :
  RowV w9 u6 vs /\ (∀ k, u6.ownBlock = some k -> W.heap.size <= k) /\ P (vs.length + 1) (fun k => E0 k \/ u6.ownBlock = some k) w9 /\ (∀ b t c, t ∈ kvL -> E0 b -> Box W b t c -> Box w9 b t c) /\ W.heap.size <= w9.heap.size := by
 have hrow2 : w2.ownsRow Bo VTy 3 u6 j (flatV (vs.take j)) := own_stay H.row (fun b c h1 h2 => hbx b VTy c (by decide) (.inr (.inr h1)) h2)
 have hrow9 := own_below hrow2 hb
 have hz := H.sz
 have hz2 := hb.size
 rw [hj, List.take_length] at hrow9
 subst hj
 exact ⟨RowV.own hrow9, fun k hk => Nat.le_trans hWB (own_lt hrow9 k hk).1, S.excl (S.on hp hb) (fun k hk => .inl (hk.elim .inl (fun h => .inr (.inr h)))), fun b t c h1 h2 h3 => (hbx b t c h1 (.inl h2) (H.bx b t c h1 h2 h3)).below hb, by omega⟩
theorem all_any (S : AskSt B0 m fv vs P) (H : P 0 E0 W) (hB0 : B0 <= W.heap.size) (hE0 : ∀ k, E0 k -> k < W.heap.size) (hn : vs.length <= 10000) :
  Calls Tryz.prog 17 #[.pointer (some ⟨m, 0, none⟩), valV fv] W fun e w' => ∃ rv, e = .returned (.tuple #[rv, .bool true]) /\ RowV w' rv vs /\ (∀ k, rv.ownBlock = some k -> W.heap.size <= k) /\ P (vs.length + 1) (fun k => E0 k \/ rv.ownBlock = some k) w' /\ (∀ b t c, t ∈ kvL -> E0 b -> Box W b t c -> Box w' b t c) /\ W.heap.size <= w'.heap.size := by
 obtain ⟨tb, htb⟩ : ∃ tb, W.heap.size = tb := ⟨_, rfl⟩
 obtain ⟨W0, hW0⟩ : ∃ W0, (W.alloc (.cells #[.int .i64 fv.1, .int .i64 fv.2.1, .string fv.2.2] 28)) = W0 := ⟨_, rfl⟩
 have bb : Below W.heap.size W W0 := by rw [<- hW0]; exact ((Below.refl _ _).alloc (Nat.le_refl _) _)
 have xtb : Box W0 tb 28 #[.int .i64 fv.1, .int .i64 fv.2.1, .string fv.2.2] := by have h9 := Box.new W 28 #[.int .i64 fv.1, .int .i64 fv.2.1, .string fv.2.2]; rw [hW0, htb] at h9; exact h9
 have HW0 := Veil.mk (And.intro hW0 (htb))
 have HBB := Veil.mk (And.intro bb (xtb))
 have HLO : Veil (W.heap.size <= tb) := ⟨by omega⟩
 clear hW0 bb htb xtb
 obtain ⟨Bo, hBo⟩ : ∃ Bo, W0.heap.size = Bo := ⟨_, rfl⟩
 have HBo : Veil (W.heap.size <= Bo /\ tb < Bo /\ B0 <= Bo) := ⟨by have h1 := HBB.out.1.size; have h2 := HBB.out.2.lt; omega⟩
 have H0 : Veil (AL P W E0 vs Bo tb fv 0 (.slice none 0 0) W0) := ⟨by
  refine ⟨S.on (S.excl H (fun k hk => ?_)) HBB.out.1, HBB.out.2, ⟨rfl, .inl ⟨rfl, rfl⟩⟩, Nat.zero_le _, Nat.le_of_eq hBo.symm, fun b t c _ _ h3 => h3.below HBB.out.1⟩
  rcases hk with hk | hk | hk
  ·exact .inl hk
  ·exact .inr (by rw [hk]; exact HLO.out)
  ·cases hk⟩
 have HS := Veil.mk S
 have HE0 := Veil.mk hE0
 have HN := Veil.mk hn
 obtain ⟨iv0, iv1, iv2, iv3, iv4⟩ := info_parts Tryz.infoW
 clear H S hBo hE0 hn hB0
 go_enter Tryz.func17, Tryz.ntmps17
 go_upto_region 1 with (fail)
 rw [HW0.out.1, HW0.out.2]
 go_wp2
 go_loopw [6, 13] (fun rv jv wr => ∃ j : Nat, jv = .int .i64 (j : Int) /\ AL P W E0 vs Bo tb fv j rv wr) (fun _ jv _ => 20000 - (intOf jv).toNat)
 case atStart => exact ⟨0, rfl, H0.out⟩
 case round =>
  clear H0
  obtain ⟨j, rfl, hal⟩ := hrel
  have hj0 : (0 : Int) <= (j : Int) := by omega
  have hj1 : (j : Int) < 20000 := by have := hal.jl; have := HN.out; omega
  have htb := hal.tb
  have c0 : wr.cell? ⟨tb, 0, none⟩ = some (.int .i64 fv.1) := htb.at_ 0
  have c1 : wr.cell? ⟨tb, 1, none⟩ = some (.int .i64 fv.2.1) := htb.at_ 1
  have c2 : wr.cell? ⟨tb, 2, none⟩ = some (.string fv.2.2) := htb.at_ 2
  have HK := Veil.mk (HS.out.ask hal.p hal.jl (fun k hk => by
   rcases hk with hk | hk | hk
   ·have := HE0.out k hk
    have := hal.sz
    have := HBo.out.1
    omega
   ·rw [hk]
    exact htb.lt
   ·exact (own_lt hal.row k hk).2))
  have HAL := Veil.mk hal
  clear hal htb
  go_upto_region 5 with (go_at_call 20; ((with_reducible refine HK.out.mono ?_); rintro e w2 ⟨r, v, d, rfl, hd1, hd2, hp2, hmd, hmv, hbx2, hs2⟩; have HR2 := Veil.mk (And.intro hp2 (And.intro hbx2 hs2)); have HD := Veil.mk (And.intro hd1 hd2); have HMD := Veil.mk hmd; have HMV := Veil.mk hmv; clear hp2 hbx2 hs2 hd1 hd2 hmd hmv))
  obtain ⟨qb, hqb⟩ : ∃ qb, w2.heap.size = qb := ⟨_, rfl⟩
  obtain ⟨w3, hw3⟩ : ∃ w3, w2.alloc (.cells #[.int .i64 r.1, .int .i64 r.2.1, .string r.2.2] 28) = w3 := ⟨_, rfl⟩
  have bx := Box.new w2 28 #[.int .i64 r.1, .int .i64 r.2.1, .string r.2.2]
  have bl : Below w2.heap.size w2 (w2.alloc (.cells #[.int .i64 r.1, .int .i64 r.2.1, .string r.2.2] 28)) := (Below.refl _ _).alloc (Nat.le_refl _) _
  rw [hw3] at bx bl ⊢
  rw [hqb] at bx ⊢
  have HB3 := Veil.mk (And.intro bl bx)
  clear c0 c1 c2 hqb hw3 bx bl HK
  have d0 : w3.cell? ⟨qb, 0, none⟩ = some (.int .i64 r.1) := HB3.out.2.at_ 0
  have d1 : w3.cell? ⟨qb, 1, none⟩ = some (.int .i64 r.2.1) := HB3.out.2.at_ 1
  have d2 : w3.cell? ⟨qb, 2, none⟩ = some (.string r.2.2) := HB3.out.2.at_ 2
  obtain ⟨dv, hdv⟩ : ∃ dv, tvV d = dv := ⟨_, rfl⟩
  have HTR : Veil (∀ w9, Calls Tryz.prog 22 #[valV dv] w9 fun e w' => e = .returned (.bool d) /\ Below w9.heap.size w9 w') := ⟨fun w9 => by rw [<- hdv]; exact true_v d w9⟩
  rw [hdv] at HMD
  go_upto_region 8 with (go_at_call 21; ((with_reducible refine (HMD.out w3 HB3.out.1).mono ?_); rintro e w4 ⟨rfl, hb4⟩; have HB4 := Veil.mk hb4; clear hb4))
  clear d0 d1 d2
  obtain ⟨db, hdb⟩ : ∃ db, w4.heap.size = db := ⟨_, rfl⟩
  obtain ⟨w5, hw5⟩ : ∃ w5, w4.alloc (.cells #[.int .i64 dv.1, .int .i64 dv.2.1, .string dv.2.2] 28) = w5 := ⟨_, rfl⟩
  have bx := Box.new w4 28 #[.int .i64 dv.1, .int .i64 dv.2.1, .string dv.2.2]
  have bl : Below w4.heap.size w4 (w4.alloc (.cells #[.int .i64 dv.1, .int .i64 dv.2.1, .string dv.2.2] 28)) := (Below.refl _ _).alloc (Nat.le_refl _) _
  rw [hw5] at bx bl ⊢
  rw [hdb] at bx ⊢
  have hb35 := blw2 HB4.out bl
  have HB5 := Veil.mk (And.intro (blw2 HB3.out.1 hb35) (And.intro bx (HB3.out.2.below hb35)))
  clear hdb hw5 bx bl hb35 HMD HB4 HB3 hdv
  have d0 : w5.cell? ⟨qb, 0, none⟩ = some (.int .i64 r.1) := HB5.out.2.2.at_ 0
  have d1 : w5.cell? ⟨qb, 1, none⟩ = some (.int .i64 r.2.1) := HB5.out.2.2.at_ 1
  have d2 : w5.cell? ⟨qb, 2, none⟩ = some (.string r.2.2) := HB5.out.2.2.at_ 2
  go_upto_region 9 with (go_at_call 21; ((with_reducible refine (HMV.out w5 HB5.out.1).mono ?_); rintro e w6 ⟨rfl, hb6⟩; have HB6 := Veil.mk hb6; clear hb6))
  clear d0 d1 d2
  obtain ⟨vb, hvb⟩ : ∃ vb, w6.heap.size = vb := ⟨_, rfl⟩
  obtain ⟨w7, hw7⟩ : ∃ w7, w6.alloc (.cells #[.int .i64 v.1, .int .i64 v.2.1, .string v.2.2] 28) = w7 := ⟨_, rfl⟩
  have bx := Box.new w6 28 #[.int .i64 v.1, .int .i64 v.2.1, .string v.2.2]
  have bl : Below w6.heap.size w6 (w6.alloc (.cells #[.int .i64 v.1, .int .i64 v.2.1, .string v.2.2] 28)) := (Below.refl _ _).alloc (Nat.le_refl _) _
  rw [hw7] at bx bl ⊢
  rw [hvb] at bx ⊢
  have hb57 := blw2 HB6.out bl
  have HB7 := Veil.mk (And.intro (blw2 HB5.out.1 hb57) (And.intro bx (HB5.out.2.1.below hb57)))
  clear hvb hw7 bx bl hb57 HMV HB6 HB5
  have d0 : w7.cell? ⟨db, 0, none⟩ = some (.int .i64 dv.1) := HB7.out.2.2.at_ 0
  have d1 : w7.cell? ⟨db, 1, none⟩ = some (.int .i64 dv.2.1) := HB7.out.2.2.at_ 1
  have d2 : w7.cell? ⟨db, 2, none⟩ = some (.string dv.2.2) := HB7.out.2.2.at_ 2
  rcases Nat.lt_or_ge j vs.length with hj | hj
  ·obtain ⟨rfl, hv⟩ := HD.out.1 hj
   go_upto_region 11 with (go_at_call 22; ((with_reducible refine (HTR.out w7).mono ?_); rintro e w8 ⟨rfl, hb8⟩; have HB8 := Veil.mk hb8; clear hb8))
   clear d0 d1 d2
   have hvb8 := HB7.out.2.1.below HB8.out
   have d0 : w8.cell? ⟨vb, 0, none⟩ = some (.int .i64 v.1) := hvb8.at_ 0
   have d1 : w8.cell? ⟨vb, 1, none⟩ = some (.int .i64 v.2.1) := hvb8.at_ 1
   have d2 : w8.cell? ⟨vb, 2, none⟩ = some (.string v.2.2) := hvb8.at_ 2
   have hrow8 : w8.ownsRow Bo VTy 3 u6 j (flatV (vs.take j)) := own_below (own_stay HAL.out.row (fun b c h1 h2 => HR2.out.2.1 b VTy c (by decide) (.inr (.inr h1)) h2)) (blw2 HB7.out.1 HB8.out)
   have hsz8 : Bo <= w8.heap.size := by have h1 := HAL.out.sz; have h2 := HR2.out.2.2; have h3 := (blw2 HB7.out.1 HB8.out).size; omega
   have hjs : j <= 10000 := by have := HN.out; omega
   go_wp2_with (at_builtin; refine wpList_append_lies _ rfl _ _ 30 rfl Bo VTy iv0 (.agg #[.int .i64 0, .int .i64 0, .string ⟨#[]⟩]) 3 32 Tryz.underlying30 iv1 iv2 iv3 iv4 rfl (by decide) _ _ _ rfl (hrow8.alloc _) ⟨w8.heap.size, 0, none⟩ 1 1 [.int .i64 v.1, .int .i64 v.2.1, .string v.2.2] rfl rfl (news_at _ _ rfl _ _) (by simp [Value.oneCell']) (by decide) (by unfold maxLen; omega) (by omega) (by rw [World.size_alloc]; omega) _ rfl ?_; intro g5 cap5 w9 hown5 hgrow5 hblk5 hg5; refine Hid.out ?_)
   have HNX := Veil.mk (AL.next HS.out HAL.out HE0.out HBo.out.1 HBo.out.2.2 HBo.out.2.1 hv HR2.out.1 HR2.out.2.1 HR2.out.2.2 (blw2 HB7.out.1 HB8.out) hown5 hgrow5 hblk5)
   clear hown5 hgrow5 hblk5 hg5 hrow8 hsz8 d0 d1 d2 hvb8
   refine Lib.hid ?_
   go_wp2
   go_roundw
   case rel => exact ⟨j + 1, by go_num, HNX.out⟩
   case measure => simp [intOf]; omega
  ·have hje : j = vs.length := by have := HAL.out.jl; omega
   obtain ⟨rfl, rfl⟩ := HD.out.2 hje
   go_upto_region 10 with (go_at_call 22; ((with_reducible refine (HTR.out w7).mono ?_); rintro e w8 ⟨rfl, hb8⟩; have HB8 := Veil.mk hb8; clear hb8))
   clear d0 d1 d2
   have hvb8 := HB7.out.2.1.below HB8.out
   have d0 : w8.cell? ⟨vb, 0, none⟩ = some (.int .i64 0) := hvb8.at_ 0
   have d1 : w8.cell? ⟨vb, 1, none⟩ = some (.int .i64 0) := hvb8.at_ 1
   have d2 : w8.cell? ⟨vb, 2, none⟩ = some (.string ⟨#[]⟩) := hvb8.at_ 2
   have HF := Veil.mk (fun n : Nat => AL.fin HS.out HAL.out HBo.out.1 hje HR2.out.1 HR2.out.2.1 HR2.out.2.2 (blw2 (blw2 HB7.out.1 HB8.out) (show Below w8.heap.size w8 (w8.drewN n) from ⟨rfl, rfl, rfl, Nat.le_refl _, fun _ _ => rfl⟩)))
   clear hvb8
   go_quiet (fail)
   go_wp2
   exact bodyPost_ret (v := (.tuple #[u6, .bool true])) (by simp [results, Tryz.results17, go_sem]) rfl ⟨_, rfl, HF.out _⟩
end
end Go.Proofs.YtahkohfppakaiaaGreatDoor
namespace Go.Proofs.YtahkohfppakaiaaGreatDoor
open Go Go.RowKit
section
variable {w W W' : World} {G : List (Nat × TypeId × Array Value)} {h A m g : Nat} {ts : List TO} {cs : Array Value} {E : Nat -> Prop} {st : Int}
end
section
variable {w : World} {G : List (Nat × TypeId × Array Value)} {h A m g iw o n0 : Nat} {kd st : Int} {l : List Nat}
end
end Go.Proofs.YtahkohfppakaiaaGreatDoor
namespace Go.Proofs.YtahkohfppakaiaaGreatDoor
open Go Go.RowKit
attribute [local go_sem] Oper.semAt_some
theorem hasel_yes {w : World} {B0 o n i : Nat} {proto : Int} {cs : Bool} {pv fn : Value} {kd : KD} {ev : Value} {xs : Nat -> Vt} (hb : Box w o 63 (objF 1 proto cs pv ev fn kd)) (he : EL w B0 ev n xs) (hin : i < n) (_hn9 : n <= 1000000) (hx : (xs i).1 ≠ 10) (s : ByteArray) :
  Calls Tryz.prog 83 #[.pointer (some ⟨o, 0, none⟩), valV (3, (i : Int), s)] w fun e w' => e = .returned (.bool true) /\ Below w.heap.size w w' := by
 obtain ⟨g, cap, rfl, hel⟩ : ∃ g cap, ev = .slice (some ⟨g, 0, none⟩) n cap /\ ELg w B0 g n cap xs := by
  rcases he with ⟨-, e2⟩ | ⟨g, cap, e1, he⟩
  ·omega
  ·exact ⟨g, cap, e1, he⟩
 have hc := (hel.cell i (Nat.lt_of_lt_of_le hin hel.le)).1
 have hgl := hel.lt
 obtain ⟨x, hxe⟩ : ∃ x, (xs i).1 = x := ⟨_, rfl⟩
 rw [hxe] at hc hx
 obtain ⟨kb, hkb⟩ : ∃ kb, w.heap.size = kb := ⟨_, rfl⟩
 obtain ⟨W0, hW0⟩ : ∃ W0, (w.alloc (.cells #[.int .i64 3, .int .i64 (i : Int), .string s] 28)) = W0 := ⟨_, rfl⟩
 have bb : Below w.heap.size w W0 := by rw [<- hW0]; exact ((Below.refl _ _).alloc (Nat.le_refl _) _)
 have xkb : Box W0 kb 28 #[.int .i64 3, .int .i64 (i : Int), .string s] := by have h9 := Box.new w 28 #[.int .i64 3, .int .i64 (i : Int), .string s]; rw [hW0, hkb] at h9; exact h9
 have HW0 := Veil.mk (And.intro hW0 (hkb))
 have HBB := Veil.mk (And.intro bb (xkb))
 have HLO : Veil (w.heap.size <= kb) := ⟨by omega⟩
 clear hW0 bb hkb xkb
 have HOB0 := Veil.mk (And.intro hb (And.intro hgl hc))
 have hi0 : (0 : Int) <= (i : Int) := by omega
 have hin' : (i : Int) < (n : Int) := by omega
 have hxb : (x != 10) = true := by simpa using hx
 clear hb he hel hc hgl hxe
 go_enter Tryz.func83, Tryz.ntmps83
 go_upto_region 1 with (fail)
 rw [HW0.out.1, HW0.out.2]
 obtain ⟨WD, hWD⟩ : ∃ WD, W0.drew = WD := ⟨_, rfl⟩
 have HBF : Veil (Below w.heap.size w WD) := ⟨by rw [<- hWD]; exact HBB.out.1.drew⟩
 have HKB : Veil (Box WD kb 28 #[.int .i64 3, .int .i64 (i : Int), .string s]) := ⟨by rw [<- hWD]; exact HBB.out.2.drew⟩
 have HOB := Veil.mk (HOB0.out.1.below HBF.out)
 have HEL : Veil (g < WD.heap.size /\ WD.cell? ⟨g, i * 3, none⟩ = some (.int .i64 x)) := ⟨by have := HBF.out.size; have := HOB0.out.2.1; omega, (HBF.out.cell (p := ⟨g, i * 3, none⟩) HOB0.out.2.1).trans HOB0.out.2.2⟩
 have HWD := Veil.mk hWD
 clear hWD HBB HOB0 HW0
 have hDZ : ∀ z : BW W0, Below WD.heap.size WD z.w := fun z => by rw [<- HWD.out]; exact ⟨z.h.1, z.h.2, z.h.3, z.h.4, z.h.5⟩
 have c0_3 : ∀ z : BW W0, z.w.cell? ⟨o, 0, none⟩ = some (.int .i64 1) := fun z => (HOB.out.below (hDZ z)).at_ 0
 have c0_7 : ∀ z : BW W0, z.w.cell? ⟨kb, 0, none⟩ = some (.int .i64 3) := fun z => (HKB.out.below (hDZ z)).at_ 0
 have c1_12 : ∀ z : BW W0, z.w.cell? ⟨kb, 1, none⟩ = some (.int .i64 (i : Int)) := fun z => (HKB.out.below (hDZ z)).at_ 1
 have c1_17 : ∀ z : BW W0, z.w.cell? ⟨kb, 1, none⟩ = some (.int .i64 (i : Int)) := fun z => (HKB.out.below (hDZ z)).at_ 1
 have c4_21 : ∀ z : BW W0, z.w.cell? ⟨o, 4, none⟩ = some (.slice (some ⟨g, 0, none⟩) n cap) := fun z => (HOB.out.below (hDZ z)).at_ 4
 have c4_29 : ∀ z : BW W0, z.w.cell? ⟨o, 4, none⟩ = some (.slice (some ⟨g, 0, none⟩) n cap) := fun z => (HOB.out.below (hDZ z)).at_ 4
 have c1_31 : ∀ z : BW W0, z.w.cell? ⟨kb, 1, none⟩ = some (.int .i64 (i : Int)) := fun z => (HKB.out.below (hDZ z)).at_ 1
 have c9_34 : ∀ z : BW W0, z.w.cell? ⟨g, i * 3, none⟩ = some (.int .i64 x) := fun z => ((hDZ z).cell (p := ⟨g, i * 3, none⟩) HEL.out.1).trans HEL.out.2
 have hNE := BW.ne W0
 refine wp_region_below (by kernel_rfl) (by kernel_rfl) ?_
 repeat (go_big_quiet_step (fail))
 refine wpQuiet_nil ?_
 rintro _ ⟨z, rfl⟩
 have HQ := Veil.mk (hDZ z)
 obtain ⟨wE, hE2⟩ : ∃ wE, z.w = wE := ⟨_, rfl⟩
 rw [hE2] at HQ ⊢
 clear c0_3 c0_7 c1_12 c1_17 c4_21 c4_29 c1_31 c9_34 hDZ hE2 z hNE
 go_wp2
 go_ret
 exact ⟨rfl, HBF.out.trans (HQ.out.mono HBF.out.size)⟩
theorem get_el {W : World} {h B0 m o n i : Nat} {proto : Int} {cs : Bool} {pv fn : Value} {kd : KD} {ev : Value} {xs : Nat -> Vt} (fv : Vt) (h9 : fv.1 = 9) (hm : W.cell? ⟨m, 0, none⟩ = some (.pointer (some ⟨h, 0, none⟩))) (hml : m < W.heap.size) (hb : Box W o 63 (objF 1 proto cs pv ev fn kd)) (he : EL W B0 ev n xs) (hin : i < n) (hn9 : n <= 1000000) (hx : (xs i).1 ≠ 10)
  (HOF : Veil (∀ w', Below W.heap.size W w' -> Calls Tryz.prog 14 #[.pointer (some ⟨h, 0, none⟩), valV fv] w' fun e w9 => e = .returned (.pointer (some ⟨o, 0, none⟩)) /\ Below w'.heap.size w' w9)) :
  Calls Tryz.prog 189 #[.pointer (some ⟨m, 0, none⟩), valV fv, valV (3, (i : Int), ⟨#[]⟩)] W fun e w' => e = .returned (.tuple #[valV (xs i), .int .i64 0]) /\ Below W.heap.size W w' := by
 obtain ⟨g, cap, rfl, hel⟩ : ∃ g cap, ev = .slice (some ⟨g, 0, none⟩) n cap /\ ELg W B0 g n cap xs := by
  rcases he with ⟨-, e2⟩ | ⟨g, cap, e1, he⟩
  ·omega
  ·exact ⟨g, cap, e1, he⟩
 have hHE : ∀ w', Below W.heap.size W w' -> Calls Tryz.prog 83 #[.pointer (some ⟨o, 0, none⟩), valV (3, (i : Int), ⟨#[]⟩)] w' fun e w9 => e = .returned (.bool true) /\ Below w'.heap.size w' w9 := fun w' hw => hasel_yes (hb.below hw) (he.on hw) hin hn9 hx _
 have HHE := Veil.mk hHE
 obtain ⟨c0, c1, c2⟩ := hel.cell i (Nat.lt_of_lt_of_le hin hel.le)
 have hgl := hel.lt
 obtain ⟨x, hxe⟩ : ∃ x, xs i = x := ⟨_, rfl⟩
 rw [hxe] at c0 c1 c2 ⊢
 have HN := Veil.mk (fun w9 => nullish_obj fv h9 w9)
 obtain ⟨vb, hvb⟩ : ∃ vb, W.heap.size = vb := ⟨_, rfl⟩
 obtain ⟨kb, hkb⟩ : ∃ kb, vb + 1 = kb := ⟨_, rfl⟩
 obtain ⟨rb, hrb⟩ : ∃ rb, kb + 1 = rb := ⟨_, rfl⟩
 obtain ⟨W0, hW0⟩ : ∃ W0, (((W.alloc (.cells #[.int .i64 fv.1, .int .i64 fv.2.1, .string fv.2.2] 28)).alloc (.cells #[.int .i64 3, .int .i64 (i : Int), .string ⟨#[]⟩] 28)).alloc (.cells #[.int .i64 0, .int .i64 0, .string ⟨#[]⟩] 28)) = W0 := ⟨_, rfl⟩
 have bb : Below W.heap.size W W0 := by rw [<- hW0]; exact ((((Below.refl _ _).alloc (Nat.le_refl _) _).alloc (by simp only [World.size_alloc]; omega) _).alloc (by simp only [World.size_alloc]; omega) _)
 have xvb : Box W0 vb 28 #[.int .i64 fv.1, .int .i64 fv.2.1, .string fv.2.2] := by have h9 := ((((Box.new W 28 #[.int .i64 fv.1, .int .i64 fv.2.1, .string fv.2.2]).more (.cells #[.int .i64 3, .int .i64 (i : Int), .string ⟨#[]⟩] 28))).more (.cells #[.int .i64 0, .int .i64 0, .string ⟨#[]⟩] 28)); rw [hW0, hvb] at h9; exact h9
 have xkb : Box W0 kb 28 #[.int .i64 3, .int .i64 (i : Int), .string ⟨#[]⟩] := by have h9 := ((Box.new (W.alloc (.cells #[.int .i64 fv.1, .int .i64 fv.2.1, .string fv.2.2] 28)) 28 #[.int .i64 3, .int .i64 (i : Int), .string ⟨#[]⟩]).more (.cells #[.int .i64 0, .int .i64 0, .string ⟨#[]⟩] 28)); rw [hW0, show (W.alloc (.cells #[.int .i64 fv.1, .int .i64 fv.2.1, .string fv.2.2] 28)).heap.size = kb from by simp only [World.size_alloc]; omega] at h9; exact h9
 have xrb : Box W0 rb 28 #[.int .i64 0, .int .i64 0, .string ⟨#[]⟩] := by have h9 := Box.new ((W.alloc (.cells #[.int .i64 fv.1, .int .i64 fv.2.1, .string fv.2.2] 28)).alloc (.cells #[.int .i64 3, .int .i64 (i : Int), .string ⟨#[]⟩] 28)) 28 #[.int .i64 0, .int .i64 0, .string ⟨#[]⟩]; rw [hW0, show ((W.alloc (.cells #[.int .i64 fv.1, .int .i64 fv.2.1, .string fv.2.2] 28)).alloc (.cells #[.int .i64 3, .int .i64 (i : Int), .string ⟨#[]⟩] 28)).heap.size = rb from by simp only [World.size_alloc]; omega] at h9; exact h9
 have HW0 := Veil.mk (And.intro hW0 (And.intro hvb (And.intro hkb (hrb))))
 have HBB := Veil.mk (And.intro bb (And.intro xvb (And.intro xkb (xrb))))
 have HLO : Veil (W.heap.size <= vb /\ W.heap.size <= kb /\ W.heap.size <= rb) := ⟨by omega⟩
 clear hW0 bb hvb xvb hkb xkb hrb xrb
 have HM9 := Veil.mk (And.intro hml hm)
 have HOB0 := Veil.mk (And.intro hb (And.intro hgl (And.intro c0 (And.intro c1 c2))))
 have hi0 : (0 : Int) <= (i : Int) := by omega
 have hin' : (i : Int) < (n : Int) := by omega
 clear hb he hel c0 c1 c2 hgl hxe hm hml hHE hx h9
 go_enter Tryz.func189, Tryz.ntmps189
 go_upto_region 1 with (fail)
 rw [HW0.out.1, HW0.out.2.1, HW0.out.2.2.1, HW0.out.2.2.2]
 have b0 : W0.cell? ⟨vb, 0, none⟩ = some (.int .i64 fv.1) := HBB.out.2.1.at_ 0
 have b1 : W0.cell? ⟨vb, 1, none⟩ = some (.int .i64 fv.2.1) := HBB.out.2.1.at_ 1
 have b2 : W0.cell? ⟨vb, 2, none⟩ = some (.string fv.2.2) := HBB.out.2.1.at_ 2
 go_upto_region 5 with (go_at_call 82; ((with_reducible refine (HN.out _).mono ?_); rintro e w1 ⟨rfl, hb1⟩; have HB1 := Veil.mk hb1; clear hb1))
 clear b0 b1 b2
 obtain ⟨WO, hWD⟩ : ∃ WO, w1.drew = WO := ⟨_, rfl⟩
 have hbD : Below W0.heap.size W0 WO := by rw [<- hWD]; exact HB1.out.drew
 have HBF : Veil (Below W.heap.size W WO) := ⟨HBB.out.1.trans (hbD.mono HBB.out.1.size)⟩
 have HVB := Veil.mk (HBB.out.2.1.below hbD)
 have HKB := Veil.mk (HBB.out.2.2.1.below hbD)
 have HRB := Veil.mk (HBB.out.2.2.2.below hbD)
 have HM0 : Veil (m < WO.heap.size /\ WO.cell? ⟨m, 0, none⟩ = some (.pointer (some ⟨h, 0, none⟩))) := ⟨Nat.lt_of_lt_of_le HM9.out.1 HBF.out.size, (HBF.out.cell (p := ⟨m, 0, none⟩) HM9.out.1).trans HM9.out.2⟩
 have HOF : Veil (∀ w', Below WO.heap.size WO w' -> Calls Tryz.prog 14 #[.pointer (some ⟨h, 0, none⟩), valV fv] w' fun e w9 => e = .returned (.pointer (some ⟨o, 0, none⟩)) /\ Below w'.heap.size w' w9) := ⟨fun w' hb => HOF.out w' (HBF.out.trans (hb.mono HBF.out.size))⟩
 have HWD := Veil.mk hWD
 clear hWD hbD HBB HM9 HB1 HN HW0
 have hDZ : ∀ z : BW w1, Below WO.heap.size WO z.w := fun z => by rw [<- HWD.out]; exact ⟨z.h.1, z.h.2, z.h.3, z.h.4, z.h.5⟩
 have c0_3 : ∀ z : BW w1, z.w.cell? ⟨m, 0, none⟩ = some (.pointer (some ⟨h, 0, none⟩)) := fun z => ((hDZ z).cell (p := ⟨m, 0, none⟩) HM0.out.1).trans HM0.out.2
 have c0_4 : ∀ z : BW w1, z.w.cell? ⟨vb, 0, none⟩ = some (.int .i64 fv.1) := fun z => (HVB.out.below (hDZ z)).at_ 0
 have c1_4 : ∀ z : BW w1, z.w.cell? ⟨vb, 1, none⟩ = some (.int .i64 fv.2.1) := fun z => (HVB.out.below (hDZ z)).at_ 1
 have c2_4 : ∀ z : BW w1, z.w.cell? ⟨vb, 2, none⟩ = some (.string fv.2.2) := fun z => (HVB.out.below (hDZ z)).at_ 2
 have hNE := BW.ne w1
 refine wp_region_below (by kernel_rfl) (by kernel_rfl) ?_
 repeat (go_big_quiet_step ((go_at_call 14; exact BW.on _ (HOF.out _ (hDZ _)))))
 refine wpQuiet_nil ?_
 rintro _ ⟨z, rfl⟩
 have HQ := Veil.mk (hDZ z)
 obtain ⟨wE, hE2⟩ : ∃ wE, z.w = wE := ⟨_, rfl⟩
 rw [hE2] at HQ ⊢
 clear c0_3 c0_4 c1_4 c2_4 hDZ hE2 z hNE
 have HBE : Veil (Below W.heap.size W wE) := ⟨HBF.out.trans (HQ.out.mono HBF.out.size)⟩
 have k0 : wE.cell? ⟨kb, 0, none⟩ = some (.int .i64 3) := (HKB.out.below HQ.out).at_ 0
 have k1 : wE.cell? ⟨kb, 1, none⟩ = some (.int .i64 (i : Int)) := (HKB.out.below HQ.out).at_ 1
 have k2 : wE.cell? ⟨kb, 2, none⟩ = some (.string ⟨#[]⟩) := (HKB.out.below HQ.out).at_ 2
 go_upto_region 7 with (go_at_call 83; ((with_reducible refine (HHE.out _ HBE.out).mono ?_); rintro e w2 ⟨rfl, hb2⟩; have HB2 := Veil.mk (blw2 HQ.out hb2); clear hb2))
 clear k0 k1 k2 HWD HBE
 obtain ⟨WD, hWD⟩ : ∃ WD, w2.drew = WD := ⟨_, rfl⟩
 have hb3 : Below WO.heap.size WO WD := by rw [<- hWD]; exact HB2.out.drew
 have hbW := HBF.out.trans (hb3.mono HBF.out.size)
 have HR7 : Veil (Box WD o 63 (objF 1 proto cs pv (.slice (some ⟨g, 0, none⟩) n cap) fn kd) /\ Box WD kb 28 #[.int .i64 3, .int .i64 (i : Int), .string ⟨#[]⟩] /\ Box WD rb 28 #[.int .i64 0, .int .i64 0, .string ⟨#[]⟩] /\ WD.cell? ⟨g, i * 3, none⟩ = some (.int .i64 x.1) /\ WD.cell? ⟨g, i * 3 + 1, none⟩ = some (.int .i64 x.2.1) /\ WD.cell? ⟨g, i * 3 + 2, none⟩ = some (.string x.2.2)) := ⟨HOB0.out.1.below hbW, HKB.out.below hb3, HRB.out.below hb3, (hbW.cell (p := ⟨g, i * 3, none⟩) HOB0.out.2.1).trans HOB0.out.2.2.1, (hbW.cell (p := ⟨g, i * 3 + 1, none⟩) HOB0.out.2.1).trans HOB0.out.2.2.2.1, (hbW.cell (p := ⟨g, i * 3 + 2, none⟩) HOB0.out.2.1).trans HOB0.out.2.2.2.2⟩
 have HBF := Veil.mk hbW
 have HWD := Veil.mk hWD
 clear hWD hb3 hbW HB2 HQ HOB0 HKB HRB HVB HOF HHE HM0
 refine wp_region_chain [qp o 0, qp o 0, qp o 4, qq (.slice (some ⟨g, 0, none⟩) n cap), qp kb 1, qi (i : Int), qp g (i * 3), qv x, none, qi 0] (LPh [8] (SqSt WD [(fun w => w = ((WD.setCell ⟨rb, 0, none⟩ (.int .i64 x.1)).setCell ⟨rb, 1, none⟩ (.int .i64 x.2.1)).setCell ⟨rb, 2, none⟩ (.string x.2.2))])) [some 33, some 34, some 35, some 36, some 37, some 38, some 39, some 40, none, some 7] (curV' _ [some 33, some 34, some 35, some 36, some 37, some 38, some 39, some 40, none, some 7]) (by kernel_rfl) rfl rfl (puts_cur _ _) (LPh.start (show _ = WD from HWD.out)) ?_ (by kernel_rfl) ?_
 ·refine SY (fun _ S => ?_) ?_
  ·obtain ⟨⟩ := n10 S.hu
   rw [pin S.ha]
   go_simp
   exact S.kL 0
  refine SY (fun _ S => ?_) ?_
  ·obtain ⟨⟩ := n10 S.hu
   obtain rfl := S.q 0
   rw [pin S.ha]
   go_simp
   exact S.kL 1
  refine SY (fun _ S => ?_) ?_
  ·obtain ⟨⟩ := n10 S.hu
   obtain rfl := S.q 1
   rw [pin S.ha]
   go_simp
   exact S.kL 2
  refine SY (fun w' S => ?_) ?_
  ·obtain ⟨⟩ := n10 S.hu
   obtain rfl := S.q 2
   have gb := (S.hI.bwd [3] 8 3 (by kernel_rfl) rfl S.h0)
   have hst := S.hI.ph.btw1 0 (.inl rfl) (.inr ⟨8, rfl, gb⟩)
   have hst' : WD = w' := (show w' = WD from hst).symm
   clear hst
   subst hst'
   have c4 : WD.cell? ⟨o, 4, none⟩ = some (.slice (some ⟨g, 0, none⟩) n cap) := HR7.out.1.at_ 4
   clear gb
   rw [pin S.ha]
   go_simp
   exact S.kL 3
  refine SY (fun _ S => ?_) ?_
  ·obtain ⟨⟩ := n10 S.hu
   rw [pin S.ha]
   go_simp
   exact S.kL 4
  refine SY (fun w' S => ?_) ?_
  ·obtain ⟨⟩ := n10 S.hu
   obtain rfl := S.q 4
   have gb := (S.hI.bwd [5] 8 5 (by kernel_rfl) rfl S.h0)
   have hst := S.hI.ph.btw1 0 (.inl rfl) (.inr ⟨8, rfl, gb⟩)
   have hst' : WD = w' := (show w' = WD from hst).symm
   clear hst
   subst hst'
   have c1 : WD.cell? ⟨kb, 1, none⟩ = some (.int .i64 (i : Int)) := HR7.out.2.1.at_ 1
   clear gb
   rw [pin S.ha]
   go_simp
   exact S.kL 5
  refine SY (fun _ S => ?_) ?_
  ·obtain ⟨⟩ := n10 S.hu
   obtain rfl := S.q 3
   obtain rfl := S.q 5
   rw [pin S.ha]
   go_simp
   exact S.kL 6
  refine SY (fun w' S => ?_) ?_
  ·obtain ⟨⟩ := n10 S.hu
   obtain rfl := S.q 6
   have gb := (S.hI.bwd [7] 8 7 (by kernel_rfl) rfl S.h0)
   have hst := S.hI.ph.btw1 0 (.inl rfl) (.inr ⟨8, rfl, gb⟩)
   have hst' : WD = w' := (show w' = WD from hst).symm
   clear hst
   subst hst'
   obtain ⟨c0, c1, c2⟩ := HR7.out.2.2.2
   clear gb
   rw [pin S.ha]
   go_simp
   exact S.kL 7
  refine SY (fun w' S => ?_) ?_
  ·obtain ⟨⟩ := n10 S.hu
   obtain rfl := S.q 7
   have gb := S.h0
   have hst := S.hI.ph.btw1 0 (.inl rfl) (.inr ⟨8, rfl, gb⟩)
   have hst' : WD = w' := (show w' = WD from hst).symm
   clear hst
   subst hst'
   have z0 : WD.cell? ⟨rb, 0, none⟩ = some (.int .i64 0) := HR7.out.2.2.1.at_ 0
   have z1 : WD.cell? ⟨rb, 1, none⟩ = some (.int .i64 0) := HR7.out.2.2.1.at_ 1
   have z2 : WD.cell? ⟨rb, 2, none⟩ = some (.string ⟨#[]⟩) := HR7.out.2.2.1.at_ 2
   have q0 := HR7.out.2.2.1.free 0
   have q1 := HR7.out.2.2.1.free 1
   have q2 := HR7.out.2.2.1.free 2
   clear gb
   rw [pin S.ha]
   go_simp
   exact S.kN 8 undef (S.hI.ph.next 0 8 _ rfl S.h0 (.inl rfl) (by decide) (rfl))
  refine SY (fun _ S => ?_) ?_
  ·obtain ⟨⟩ := n10 S.hu
   rw [pin S.ha]
   go_simp
   exact S.kL 9
  exact Steps.nil
 ·intro us wE hus dd hD2 hJ
  obtain ⟨⟩ := n10 hus
  have q1 := hJ.ph.all (fun c hc => hD2 c (by
   have : c = 8 := by simpa using hc
   show c < 10
   omega))
  obtain rfl := hJ.vq 0 hD2
  obtain rfl := hJ.vq 1 hD2
  obtain rfl := hJ.vq 2 hD2
  obtain rfl := hJ.vq 3 hD2
  obtain rfl := hJ.vq 4 hD2
  obtain rfl := hJ.vq 5 hD2
  obtain rfl := hJ.vq 6 hD2
  obtain rfl := hJ.vq 7 hD2
  obtain rfl := hJ.vq 9 hD2
  clear hJ hD2
  have HQ := Veil.mk (show wE = ((WD.setCell ⟨rb, 0, none⟩ (.int .i64 x.1)).setCell ⟨rb, 1, none⟩ (.int .i64 x.2.1)).setCell ⟨rb, 2, none⟩ (.string x.2.2) from q1)
  clear q1
  simp only [puts, setAll, List.setIfInBounds_toArray, List.set_cons_zero, List.set_cons_succ]
  have hr6 := (((HR7.out.2.2.1).put 0 (.int .i64 x.1)).put 1 (.int .i64 x.2.1)).put 2 (.string x.2.2)
  rw [<- HQ.out] at hr6
  have hrb : W.heap.size <= rb := HLO.out.2.2
  have hfin : Below W.heap.size W wE := by rw [HQ.out]; exact ((HBF.out.setCell (p := ⟨rb, 0, none⟩) hrb _).setCell (p := ⟨rb, 1, none⟩) hrb _).setCell (p := ⟨rb, 2, none⟩) hrb _
  have HZ := Veil.mk (And.intro hr6 hfin)
  clear hr6 hfin hrb HQ HR7
  go_wp2
  have y0 := HZ.out.1.at_ 0
  have y1 := HZ.out.1.at_ 1
  have y2 := HZ.out.1.at_ 2
  exact bodyPost_ret (v := .tuple #[valV x, .int .i64 0]) (by simp [results, Tryz.results189, go_sem, y0, y1, y2]) rfl ⟨rfl, HZ.out.2⟩
theorem SqSt.box2 {WD w : World} {P1 P2 : World -> Prop} {s : Nat} {f : Nat -> Value} {g : Nat} {cs : Array Value} (h : SqSt WD [P1, P2] s f w) (hs : s <= 1) (h0 : Box WD g VTy cs) (h1 : ∀ w, P1 w -> Box w g VTy cs) : Box w g VTy cs := by
 match s, hs, h with
 | 0, _, h => rw [show w = WD from h]; exact h0
 | 1, _, h => exact h1 w h
section
variable {W : World} {h A m : Nat} {f : MF} {ts : List TO}
end
section
variable {W : World} {h A m ia b : Nat} {f : MF} {ts : List TO}
theorem MP.doValues (H : MP W h A m f ts) (hf : f 11 = 12) (hl : ts.length < 99999) {ev0 : Value} (hat : ts[ia]? = some (TO.arr b 3 ev0)) (fo : Nat) (tgt : Vt) (args : Value) :
  Calls Tryz.prog 348 #[.pointer (some ⟨m, 0, none⟩), .int .i64 156, callV fo (9, (ia : Int) + 1, ⟨#[]⟩) args tgt] W fun e w' => e = .returned (.tuple #[valV (9, (ts.length : Int) + 1, ⟨#[]⟩), .int .i64 0]) /\ ∃ o g, MP w' h A m f (ts ++ [TO.wkr o 2 (.slice (some ⟨g, 0, none⟩) 1 1) 0]) /\ Box w' g VTy #[.int .i64 9, .int .i64 ((ia : Int) + 1), .string ⟨#[]⟩] /\ W.heap.size <= g /\ Bk A W w' := by
 obtain ⟨fv, hfv⟩ : ∃ fv : Vt, ((9, (ia : Int) + 1, ⟨#[]⟩) : Vt) = fv := ⟨_, rfl⟩
 obtain ⟨x, hx⟩ : ∃ x : Vt, ((9, (ts.length : Int) + 1, ⟨#[]⟩) : Vt) = x := ⟨_, rfl⟩
 have HA : Veil (A <= W.heap.size) := ⟨Nat.le_of_lt H.mm.alt⟩
 have HBX : Veil (Box W b 63 (objC 1 3 false (.pointer none) ev0)) := ⟨H.mem_b (List.mem_of_getElem? hat) rfl⟩
 obtain ⟨cb, hcb⟩ : ∃ cb, W.heap.size = cb := ⟨_, rfl⟩
 obtain ⟨rb, hrb⟩ : ∃ rb, cb + 1 = rb := ⟨_, rfl⟩
 obtain ⟨W0, hW0⟩ : ∃ W0, ((W.alloc (.cells #[.pointer (some ⟨fo, 0, none⟩), .int .i64 fv.1, .int .i64 fv.2.1, .string fv.2.2, args, .int .i64 tgt.1, .int .i64 tgt.2.1, .string tgt.2.2] CTy)).alloc (.cells #[.int .i64 0, .int .i64 0, .string ⟨#[]⟩] VTy)) = W0 := ⟨_, rfl⟩
 have bb : Below W.heap.size W W0 := by rw [<- hW0]; exact (((Below.refl _ _).alloc (Nat.le_refl _) _).alloc (by simp only [World.size_alloc]; omega) _)
 have xcb : Box W0 cb CTy #[.pointer (some ⟨fo, 0, none⟩), .int .i64 fv.1, .int .i64 fv.2.1, .string fv.2.2, args, .int .i64 tgt.1, .int .i64 tgt.2.1, .string tgt.2.2] := by have h9 := ((Box.new W CTy #[.pointer (some ⟨fo, 0, none⟩), .int .i64 fv.1, .int .i64 fv.2.1, .string fv.2.2, args, .int .i64 tgt.1, .int .i64 tgt.2.1, .string tgt.2.2]).more (.cells #[.int .i64 0, .int .i64 0, .string ⟨#[]⟩] VTy)); rw [hW0, hcb] at h9; exact h9
 have xrb : Box W0 rb VTy #[.int .i64 0, .int .i64 0, .string ⟨#[]⟩] := by have h9 := Box.new (W.alloc (.cells #[.pointer (some ⟨fo, 0, none⟩), .int .i64 fv.1, .int .i64 fv.2.1, .string fv.2.2, args, .int .i64 tgt.1, .int .i64 tgt.2.1, .string tgt.2.2] CTy)) VTy #[.int .i64 0, .int .i64 0, .string ⟨#[]⟩]; rw [hW0, show (W.alloc (.cells #[.pointer (some ⟨fo, 0, none⟩), .int .i64 fv.1, .int .i64 fv.2.1, .string fv.2.2, args, .int .i64 tgt.1, .int .i64 tgt.2.1, .string tgt.2.2] CTy)).heap.size = rb from by simp only [World.size_alloc]; omega] at h9; exact h9
 have HW0 := Veil.mk (And.intro hW0 (And.intro hcb (hrb)))
 have HBB := Veil.mk (And.intro bb (And.intro xcb (xrb)))
 have HLO : Veil (W.heap.size <= cb /\ W.heap.size <= rb) := ⟨by omega⟩
 clear hW0 bb hcb xcb hrb xrb
 have HOF : Veil (∀ w9, Below W.heap.size W w9 -> Calls Tryz.prog 14 #[.pointer (some ⟨h, 0, none⟩), valV fv] w9 fun e w' => e = .returned (.pointer (some ⟨b, 0, none⟩)) /\ Below w9.heap.size w9 w') := ⟨fun w9 hb => by rw [<- hfv]; exact (H.on hb).of_at hat rfl ⟨#[]⟩⟩
 have HCM : Veil (∀ w9, Below W.heap.size W w9 -> w9.cell? ⟨m, 0, none⟩ = some (.pointer (some ⟨h, 0, none⟩))) := ⟨fun w9 hb => (H.on hb).mm.mb.at_ 0⟩
 have HWK : Veil (∀ w9, Below W.heap.size W w9 -> Calls Tryz.prog 15 #[.pointer (some ⟨m, 0, none⟩), .int .i64 2, valV fv] w9 fun e w' => e = .returned (valV x) /\ ∃ o g, MP w' h A m f (ts ++ [TO.wkr o 2 (.slice (some ⟨g, 0, none⟩) 1 1) 0]) /\ Box w' g VTy #[.int .i64 fv.1, .int .i64 fv.2.1, .string fv.2.2] /\ w9.heap.size <= g /\ Bk A w9 w') := ⟨fun w9 hb => by rw [<- hx]; exact (H.on hb).walker hf hl 2 fv⟩
 have HFV := Veil.mk hfv
 rw [hfv, hx]
 clear H hfv hat hx
 go_enter Tryz.func348, Tryz.ntmps348
 go_upto_region 1 with (fail)
 rw [HW0.out.1, HW0.out.2.1, HW0.out.2.2]
 go_upto_region 14 with (fail)
 obtain ⟨WD, hWD⟩ : ∃ WD, W0.drew = WD := ⟨_, rfl⟩
 have HBF : Veil (Below W.heap.size W WD) := ⟨by rw [<- hWD]; exact HBB.out.1.drew⟩
 have HXcb : Veil (Box WD cb CTy #[.pointer (some ⟨fo, 0, none⟩), .int .i64 fv.1, .int .i64 fv.2.1, .string fv.2.2, args, .int .i64 tgt.1, .int .i64 tgt.2.1, .string tgt.2.2]) := ⟨by rw [<- hWD]; exact HBB.out.2.1.drew⟩
 have HXrb : Veil (Box WD rb VTy #[.int .i64 0, .int .i64 0, .string ⟨#[]⟩]) := ⟨by rw [<- hWD]; exact HBB.out.2.2.drew⟩
 have HWD := Veil.mk hWD
 clear hWD HBB
 have HC0 : Veil (WD.cell? ⟨m, 0, none⟩ = some (.pointer (some ⟨h, 0, none⟩))) := ⟨HCM.out WD HBF.out⟩
 clear HW0
 have hDZ : ∀ z : BW W0, Below WD.heap.size WD z.w := fun z => by rw [<- HWD.out]; exact ⟨z.h.1, z.h.2, z.h.3, z.h.4, z.h.5⟩
 have c0_3 := fun z : BW W0 => cellAt (hDZ z) (HC0.out)
 have c1_5 : ∀ z : BW W0, z.w.cell? ⟨cb, 1, none⟩ = some (.int .i64 fv.1) := fun z => cellAt (hDZ z) (HXcb.out.at_ 1)
 have c2_5 : ∀ z : BW W0, z.w.cell? ⟨cb, 2, none⟩ = some (.int .i64 fv.2.1) := fun z => cellAt (hDZ z) (HXcb.out.at_ 2)
 have c3_5 : ∀ z : BW W0, z.w.cell? ⟨cb, 3, none⟩ = some (.string fv.2.2) := fun z => cellAt (hDZ z) (HXcb.out.at_ 3)
 have hNE := BW.ne W0
 refine wp_region_below (by kernel_rfl) (by kernel_rfl) ?_
 repeat (go_big_quiet_step ((go_at_call 14; exact BW.on _ (HOF.out _ (blw2 (HBF.out) (hDZ _))))))
 refine wpQuiet_nil ?_
 rintro _ ⟨z, rfl⟩
 have HQ := Veil.mk (hDZ z)
 obtain ⟨wE, hE2⟩ : ∃ wE, z.w = wE := ⟨_, rfl⟩
 rw [hE2] at HQ ⊢
 clear c0_3 c1_5 c2_5 c3_5 hDZ hE2 z hNE
 have hbE := HBF.out.trans (HQ.out.mono HBF.out.size)
 have bcb := HXcb.out.below HQ.out
 have brb := HXrb.out.below HQ.out
 have d0 : wE.cell? ⟨b, 0, none⟩ = some (.int .i64 1) := (HBX.out.below hbE).at_ 0
 have c1 : wE.cell? ⟨cb, 1, none⟩ = some (.int .i64 fv.1) := bcb.at_ 1
 have c2 : wE.cell? ⟨cb, 2, none⟩ = some (.int .i64 fv.2.1) := bcb.at_ 2
 have c3 : wE.cell? ⟨cb, 3, none⟩ = some (.string fv.2.2) := bcb.at_ 3
 have HWC := Veil.mk (HWK.out wE hbE)
 have HRB := Veil.mk (And.intro brb hbE)
 clear hbE bcb brb HQ HC0 HWD HOF HCM HBX HXcb HXrb
 go_wp2_with (go_at_call 15; ((with_reducible refine HWC.out.mono ?_); rintro e w6 ⟨rfl, o, g, h1, h2, h3, h4⟩; have HR6 := Veil.mk (And.intro (h4.boxE HRB.out.1 (by decide)) (And.intro h1 (And.intro h2 (And.intro h3 h4)))); clear h1 h2 h3 h4; have z0 : w6.cell? ⟨rb, 0, none⟩ = some (.int .i64 0) := HR6.out.1.at_ 0; have z1 : w6.cell? ⟨rb, 1, none⟩ = some (.int .i64 0) := HR6.out.1.at_ 1; have z2 : w6.cell? ⟨rb, 2, none⟩ = some (.string ⟨#[]⟩) := HR6.out.1.at_ 2; have q0 := HR6.out.1.free 0; have q1 := HR6.out.1.free 1; have q2 := HR6.out.1.free 2))
 have hr3 := ((HR6.out.1.put 0 (.int .i64 x.1)).put 1 (.int .i64 x.2.1)).put 2 (.string x.2.2)
 have y0 := hr3.at_ 0
 have y1 := hr3.at_ 1
 have y2 := hr3.at_ 2
 have hp3 := ((HR6.out.2.1.putv HR6.out.1.lab 0 (.int .i64 x.1)).putv (HR6.out.1.put 0 _).lab 1 (.int .i64 x.2.1)).putv ((HR6.out.1.put 0 _).put 1 _).lab 2 (.string x.2.2)
 have hgr : g ≠ rb := by have h1 := HR6.out.2.2.2.1; have h2 := HRB.out.1.lt; omega
 have hg3 := HR6.out.2.2.1.touch (touch3 w6 rb (.int .i64 x.1) (.int .i64 x.2.1) (.string x.2.2)) hgr
 have hk3 := (((((Bk.of_below HA.out HRB.out.2).trans HR6.out.2.2.2.2).setv HLO.out.2 HA.out 0 (.int .i64 x.1)).setv HLO.out.2 HA.out 1 (.int .i64 x.2.1)).setv HLO.out.2 HA.out 2 (.string x.2.2))
 have hgW : W.heap.size <= g := Nat.le_trans HRB.out.2.size HR6.out.2.2.2.1
 rw [<- HFV.out] at hg3
 exact bodyPost_ret (v := (.tuple #[valV x, .int .i64 0])) (by simp [results, Tryz.results348, go_sem, y0, y1, y2]) rfl ⟨rfl, o, g, hp3, hg3, hgW, hk3⟩
theorem MP.doKeys (H : MP W h A m f ts) (hf : f 11 = 12) (hl : ts.length < 99999) {ev0 : Value} (hat : ts[ia]? = some (TO.arr b 3 ev0)) (fo : Nat) (tgt : Vt) (args : Value) :
  Calls Tryz.prog 348 #[.pointer (some ⟨m, 0, none⟩), .int .i64 157, callV fo (9, (ia : Int) + 1, ⟨#[]⟩) args tgt] W fun e w' => e = .returned (.tuple #[valV (9, (ts.length : Int) + 1, ⟨#[]⟩), .int .i64 0]) /\ ∃ o g, MP w' h A m f (ts ++ [TO.wkr o 1 (.slice (some ⟨g, 0, none⟩) 1 1) 0]) /\ Box w' g VTy #[.int .i64 9, .int .i64 ((ia : Int) + 1), .string ⟨#[]⟩] /\ W.heap.size <= g /\ Bk A W w' := by
 obtain ⟨fv, hfv⟩ : ∃ fv : Vt, ((9, (ia : Int) + 1, ⟨#[]⟩) : Vt) = fv := ⟨_, rfl⟩
 obtain ⟨x, hx⟩ : ∃ x : Vt, ((9, (ts.length : Int) + 1, ⟨#[]⟩) : Vt) = x := ⟨_, rfl⟩
 have HA : Veil (A <= W.heap.size) := ⟨Nat.le_of_lt H.mm.alt⟩
 have HBX : Veil (Box W b 63 (objC 1 3 false (.pointer none) ev0)) := ⟨H.mem_b (List.mem_of_getElem? hat) rfl⟩
 obtain ⟨cb, hcb⟩ : ∃ cb, W.heap.size = cb := ⟨_, rfl⟩
 obtain ⟨rb, hrb⟩ : ∃ rb, cb + 1 = rb := ⟨_, rfl⟩
 obtain ⟨W0, hW0⟩ : ∃ W0, ((W.alloc (.cells #[.pointer (some ⟨fo, 0, none⟩), .int .i64 fv.1, .int .i64 fv.2.1, .string fv.2.2, args, .int .i64 tgt.1, .int .i64 tgt.2.1, .string tgt.2.2] CTy)).alloc (.cells #[.int .i64 0, .int .i64 0, .string ⟨#[]⟩] VTy)) = W0 := ⟨_, rfl⟩
 have bb : Below W.heap.size W W0 := by rw [<- hW0]; exact (((Below.refl _ _).alloc (Nat.le_refl _) _).alloc (by simp only [World.size_alloc]; omega) _)
 have xcb : Box W0 cb CTy #[.pointer (some ⟨fo, 0, none⟩), .int .i64 fv.1, .int .i64 fv.2.1, .string fv.2.2, args, .int .i64 tgt.1, .int .i64 tgt.2.1, .string tgt.2.2] := by have h9 := ((Box.new W CTy #[.pointer (some ⟨fo, 0, none⟩), .int .i64 fv.1, .int .i64 fv.2.1, .string fv.2.2, args, .int .i64 tgt.1, .int .i64 tgt.2.1, .string tgt.2.2]).more (.cells #[.int .i64 0, .int .i64 0, .string ⟨#[]⟩] VTy)); rw [hW0, hcb] at h9; exact h9
 have xrb : Box W0 rb VTy #[.int .i64 0, .int .i64 0, .string ⟨#[]⟩] := by have h9 := Box.new (W.alloc (.cells #[.pointer (some ⟨fo, 0, none⟩), .int .i64 fv.1, .int .i64 fv.2.1, .string fv.2.2, args, .int .i64 tgt.1, .int .i64 tgt.2.1, .string tgt.2.2] CTy)) VTy #[.int .i64 0, .int .i64 0, .string ⟨#[]⟩]; rw [hW0, show (W.alloc (.cells #[.pointer (some ⟨fo, 0, none⟩), .int .i64 fv.1, .int .i64 fv.2.1, .string fv.2.2, args, .int .i64 tgt.1, .int .i64 tgt.2.1, .string tgt.2.2] CTy)).heap.size = rb from by simp only [World.size_alloc]; omega] at h9; exact h9
 have HW0 := Veil.mk (And.intro hW0 (And.intro hcb (hrb)))
 have HBB := Veil.mk (And.intro bb (And.intro xcb (xrb)))
 have HLO : Veil (W.heap.size <= cb /\ W.heap.size <= rb) := ⟨by omega⟩
 clear hW0 bb hcb xcb hrb xrb
 have HOF : Veil (∀ w9, Below W.heap.size W w9 -> Calls Tryz.prog 14 #[.pointer (some ⟨h, 0, none⟩), valV fv] w9 fun e w' => e = .returned (.pointer (some ⟨b, 0, none⟩)) /\ Below w9.heap.size w9 w') := ⟨fun w9 hb => by rw [<- hfv]; exact (H.on hb).of_at hat rfl ⟨#[]⟩⟩
 have HCM : Veil (∀ w9, Below W.heap.size W w9 -> w9.cell? ⟨m, 0, none⟩ = some (.pointer (some ⟨h, 0, none⟩))) := ⟨fun w9 hb => (H.on hb).mm.mb.at_ 0⟩
 have HWK : Veil (∀ w9, Below W.heap.size W w9 -> Calls Tryz.prog 15 #[.pointer (some ⟨m, 0, none⟩), .int .i64 1, valV fv] w9 fun e w' => e = .returned (valV x) /\ ∃ o g, MP w' h A m f (ts ++ [TO.wkr o 1 (.slice (some ⟨g, 0, none⟩) 1 1) 0]) /\ Box w' g VTy #[.int .i64 fv.1, .int .i64 fv.2.1, .string fv.2.2] /\ w9.heap.size <= g /\ Bk A w9 w') := ⟨fun w9 hb => by rw [<- hx]; exact (H.on hb).walker hf hl 1 fv⟩
 have HFV := Veil.mk hfv
 rw [hfv, hx]
 clear H hfv hat hx
 go_enter Tryz.func348, Tryz.ntmps348
 go_upto_region 1 with (fail)
 rw [HW0.out.1, HW0.out.2.1, HW0.out.2.2]
 go_upto_region 14 with (fail)
 obtain ⟨WD, hWD⟩ : ∃ WD, W0.drew = WD := ⟨_, rfl⟩
 have HBF : Veil (Below W.heap.size W WD) := ⟨by rw [<- hWD]; exact HBB.out.1.drew⟩
 have HXcb : Veil (Box WD cb CTy #[.pointer (some ⟨fo, 0, none⟩), .int .i64 fv.1, .int .i64 fv.2.1, .string fv.2.2, args, .int .i64 tgt.1, .int .i64 tgt.2.1, .string tgt.2.2]) := ⟨by rw [<- hWD]; exact HBB.out.2.1.drew⟩
 have HXrb : Veil (Box WD rb VTy #[.int .i64 0, .int .i64 0, .string ⟨#[]⟩]) := ⟨by rw [<- hWD]; exact HBB.out.2.2.drew⟩
 have HWD := Veil.mk hWD
 clear hWD HBB
 have HC0 : Veil (WD.cell? ⟨m, 0, none⟩ = some (.pointer (some ⟨h, 0, none⟩))) := ⟨HCM.out WD HBF.out⟩
 clear HW0
 have hDZ : ∀ z : BW W0, Below WD.heap.size WD z.w := fun z => by rw [<- HWD.out]; exact ⟨z.h.1, z.h.2, z.h.3, z.h.4, z.h.5⟩
 have c0_3 := fun z : BW W0 => cellAt (hDZ z) (HC0.out)
 have c1_5 : ∀ z : BW W0, z.w.cell? ⟨cb, 1, none⟩ = some (.int .i64 fv.1) := fun z => cellAt (hDZ z) (HXcb.out.at_ 1)
 have c2_5 : ∀ z : BW W0, z.w.cell? ⟨cb, 2, none⟩ = some (.int .i64 fv.2.1) := fun z => cellAt (hDZ z) (HXcb.out.at_ 2)
 have c3_5 : ∀ z : BW W0, z.w.cell? ⟨cb, 3, none⟩ = some (.string fv.2.2) := fun z => cellAt (hDZ z) (HXcb.out.at_ 3)
 have hNE := BW.ne W0
 refine wp_region_below (by kernel_rfl) (by kernel_rfl) ?_
 repeat (go_big_quiet_step ((go_at_call 14; exact BW.on _ (HOF.out _ (blw2 (HBF.out) (hDZ _))))))
 refine wpQuiet_nil ?_
 rintro _ ⟨z, rfl⟩
 have HQ := Veil.mk (hDZ z)
 obtain ⟨wE, hE2⟩ : ∃ wE, z.w = wE := ⟨_, rfl⟩
 rw [hE2] at HQ ⊢
 clear c0_3 c1_5 c2_5 c3_5 hDZ hE2 z hNE
 have hbE := HBF.out.trans (HQ.out.mono HBF.out.size)
 have bcb := HXcb.out.below HQ.out
 have brb := HXrb.out.below HQ.out
 have d0 : wE.cell? ⟨b, 0, none⟩ = some (.int .i64 1) := (HBX.out.below hbE).at_ 0
 have c1 : wE.cell? ⟨cb, 1, none⟩ = some (.int .i64 fv.1) := bcb.at_ 1
 have c2 : wE.cell? ⟨cb, 2, none⟩ = some (.int .i64 fv.2.1) := bcb.at_ 2
 have c3 : wE.cell? ⟨cb, 3, none⟩ = some (.string fv.2.2) := bcb.at_ 3
 have HWC := Veil.mk (HWK.out wE hbE)
 have HRB := Veil.mk (And.intro brb hbE)
 clear hbE bcb brb HQ HC0 HWD HOF HCM HBX HXcb HXrb
 go_wp2_with (go_at_call 15; ((with_reducible refine HWC.out.mono ?_); rintro e w6 ⟨rfl, o, g, h1, h2, h3, h4⟩; have HR6 := Veil.mk (And.intro (h4.boxE HRB.out.1 (by decide)) (And.intro h1 (And.intro h2 (And.intro h3 h4)))); clear h1 h2 h3 h4; have z0 : w6.cell? ⟨rb, 0, none⟩ = some (.int .i64 0) := HR6.out.1.at_ 0; have z1 : w6.cell? ⟨rb, 1, none⟩ = some (.int .i64 0) := HR6.out.1.at_ 1; have z2 : w6.cell? ⟨rb, 2, none⟩ = some (.string ⟨#[]⟩) := HR6.out.1.at_ 2; have q0 := HR6.out.1.free 0; have q1 := HR6.out.1.free 1; have q2 := HR6.out.1.free 2))
 have hr3 := ((HR6.out.1.put 0 (.int .i64 x.1)).put 1 (.int .i64 x.2.1)).put 2 (.string x.2.2)
 have y0 := hr3.at_ 0
 have y1 := hr3.at_ 1
 have y2 := hr3.at_ 2
 have hp3 := ((HR6.out.2.1.putv HR6.out.1.lab 0 (.int .i64 x.1)).putv (HR6.out.1.put 0 _).lab 1 (.int .i64 x.2.1)).putv ((HR6.out.1.put 0 _).put 1 _).lab 2 (.string x.2.2)
 have hgr : g ≠ rb := by have h1 := HR6.out.2.2.2.1; have h2 := HRB.out.1.lt; omega
 have hg3 := HR6.out.2.2.1.touch (touch3 w6 rb (.int .i64 x.1) (.int .i64 x.2.1) (.string x.2.2)) hgr
 have hk3 := (((((Bk.of_below HA.out HRB.out.2).trans HR6.out.2.2.2.2).setv HLO.out.2 HA.out 0 (.int .i64 x.1)).setv HLO.out.2 HA.out 1 (.int .i64 x.2.1)).setv HLO.out.2 HA.out 2 (.string x.2.2))
 have hgW : W.heap.size <= g := Nat.le_trans HRB.out.2.size HR6.out.2.2.2.1
 rw [<- HFV.out] at hg3
 exact bodyPost_ret (v := (.tuple #[valV x, .int .i64 0])) (by simp [results, Tryz.results348, go_sem, y0, y1, y2]) rfl ⟨rfl, o, g, hp3, hg3, hgW, hk3⟩
end
structure StP (B0 : Nat) (P : (Nat -> Prop) -> World -> Prop) : Prop where
 on : ∀ {E W W'}, P E W -> Below W.heap.size W W' -> P E W'
 excl : ∀ {E W} {E' : Nat -> Prop}, P E W -> (∀ k, E' k -> E k \/ W.heap.size <= k) -> P E' W
 put : ∀ {E W b}, P E W -> Lab W b VTy -> E b -> B0 <= b -> ∀ i u, P E (W.setCell ⟨b, i, none⟩ u)
section
variable {W : World} {B0 m : Nat} {E : Nat -> Prop} {P Q : (Nat -> Prop) -> World -> Prop}
theorem ask_gen (SP : StP B0 P) (SQ : StP B0 Q) (H : P E W) (hB : B0 <= W.heap.size) (hE : ∀ k, E k -> k < W.heap.size) (fv fn x : Vt) (en : Int) (nm : ByteArray) (args : Value)
  (HM : ∀ w9, Below W.heap.size W w9 -> Calls Tryz.prog 21 #[.pointer (some ⟨m, 0, none⟩), valV fv, .string nm] w9 fun e w' => e = .returned (.tuple #[valV fn, .int .i64 0]) /\ Below w9.heap.size w9 w')
  (HC : ∀ w9 E', P E' w9 -> (∀ k, E' k -> k < w9.heap.size) -> (∀ k, E k -> E' k) -> Below W.heap.size W w9 -> Calls Tryz.prog 28 #[.pointer (some ⟨m, 0, none⟩), valV fn, valV fv, args] w9 fun e w' => e = .returned (.tuple #[valV x, .int .i64 en]) /\ Q E' w' /\ (∀ b t c, t ∈ kvL -> E' b -> Box w9 b t c -> Box w' b t c) /\ w9.heap.size <= w'.heap.size) :
  Calls Tryz.prog 20 #[.pointer (some ⟨m, 0, none⟩), valV fv, .string nm, args] W fun e w' => e = .returned (.tuple #[valV x, .int .i64 en]) /\ Q E w' /\ (∀ b t c, t ∈ kvL -> E b -> Box W b t c -> Box w' b t c) /\ W.heap.size <= w'.heap.size := by
 obtain ⟨vb, hvb⟩ : ∃ vb, W.heap.size = vb := ⟨_, rfl⟩
 obtain ⟨rb, hrb⟩ : ∃ rb, vb + 1 = rb := ⟨_, rfl⟩
 obtain ⟨W0, hW0⟩ : ∃ W0, ((W.alloc (.cells #[.int .i64 fv.1, .int .i64 fv.2.1, .string fv.2.2] 28)).alloc (.cells #[.int .i64 0, .int .i64 0, .string ⟨#[]⟩] 28)) = W0 := ⟨_, rfl⟩
 have bb : Below W.heap.size W W0 := by rw [<- hW0]; exact (((Below.refl _ _).alloc (Nat.le_refl _) _).alloc (by simp only [World.size_alloc]; omega) _)
 have xvb : Box W0 vb 28 #[.int .i64 fv.1, .int .i64 fv.2.1, .string fv.2.2] := by have h9 := ((Box.new W 28 #[.int .i64 fv.1, .int .i64 fv.2.1, .string fv.2.2]).more (.cells #[.int .i64 0, .int .i64 0, .string ⟨#[]⟩] 28)); rw [hW0, hvb] at h9; exact h9
 have xrb : Box W0 rb 28 #[.int .i64 0, .int .i64 0, .string ⟨#[]⟩] := by have h9 := Box.new (W.alloc (.cells #[.int .i64 fv.1, .int .i64 fv.2.1, .string fv.2.2] 28)) 28 #[.int .i64 0, .int .i64 0, .string ⟨#[]⟩]; rw [hW0, show (W.alloc (.cells #[.int .i64 fv.1, .int .i64 fv.2.1, .string fv.2.2] 28)).heap.size = rb from by simp only [World.size_alloc]; omega] at h9; exact h9
 have HW0 := Veil.mk (And.intro hW0 (And.intro hvb (hrb)))
 have HBB := Veil.mk (And.intro bb (And.intro xvb (xrb)))
 have HLO : Veil (W.heap.size <= vb /\ W.heap.size <= rb) := ⟨by omega⟩
 clear hW0 bb hvb xvb hrb xrb
 have HS0 : Veil (P (fun k => E k \/ k = vb \/ k = rb) W0) := ⟨SP.on (SP.excl H (fun k hk => hk.elim (fun h => .inl h) (fun h => .inr (by rcases h with rfl | rfl; exact HLO.out.1; exact HLO.out.2)))) HBB.out.1⟩
 have HMB : Veil (∀ w9, Below W0.heap.size W0 w9 -> Calls Tryz.prog 21 #[.pointer (some ⟨m, 0, none⟩), valV fv, .string nm] w9 fun e w' => e = .returned (.tuple #[valV fn, .int .i64 0]) /\ Below w9.heap.size w9 w') := ⟨fun w9 hb => HM w9 (HBB.out.1.trans (hb.mono HBB.out.1.size))⟩
 have HCL : Veil (∀ w9, Below W0.heap.size W0 w9 -> Calls Tryz.prog 28 #[.pointer (some ⟨m, 0, none⟩), valV fn, valV fv, args] w9 fun e w' => e = .returned (.tuple #[valV x, .int .i64 en]) /\ Q (fun k => E k \/ k = vb \/ k = rb) w' /\ (∀ b t c, t ∈ kvL -> (E b \/ b = vb \/ b = rb) -> Box w9 b t c -> Box w' b t c) /\ w9.heap.size <= w'.heap.size) := ⟨fun w9 hb => HC w9 _ (SP.on HS0.out hb) (fun k hk => by
   have h1 := HBB.out.1.size
   have h2 := hb.size
   have h3 := HBB.out.2.1.lt
   have h4 := HBB.out.2.2.lt
   rcases hk with h9 | h9 | h9
   ·have := hE k h9; omega
   ·omega
   ·omega) (fun k hk => .inl hk) (HBB.out.1.trans (hb.mono HBB.out.1.size))⟩
 have HEE := Veil.mk (And.intro hE hB)
 have HSQ := Veil.mk SQ
 have c0 : W0.cell? ⟨vb, 0, none⟩ = some (.int .i64 fv.1) := HBB.out.2.1.at_ 0
 have c1 : W0.cell? ⟨vb, 1, none⟩ = some (.int .i64 fv.2.1) := HBB.out.2.1.at_ 1
 have c2 : W0.cell? ⟨vb, 2, none⟩ = some (.string fv.2.2) := HBB.out.2.1.at_ 2
 clear H SP SQ hE hB HM HC HS0
 go_enter Tryz.func20, Tryz.ntmps20
 go_upto_region 1 with (fail)
 rw [HW0.out.1, HW0.out.2.1, HW0.out.2.2]
 have HM0 := Veil.mk (HMB.out W0 (Below.refl _ _))
 go_upto_region 2 with (go_at_call 21; ((with_reducible refine HM0.out.mono ?_); rintro e w1 ⟨rfl, hb1⟩; have HB1 := Veil.mk hb1; clear hb1))
 obtain ⟨fb, hfb⟩ : ∃ fb, w1.heap.size = fb := ⟨_, rfl⟩
 obtain ⟨w2, hw2⟩ : ∃ w2, w1.alloc (.cells #[.int .i64 fn.1, .int .i64 fn.2.1, .string fn.2.2] 28) = w2 := ⟨_, rfl⟩
 have bx := Box.new w1 28 #[.int .i64 fn.1, .int .i64 fn.2.1, .string fn.2.2]
 have bl : Below w1.heap.size w1 (w1.alloc (.cells #[.int .i64 fn.1, .int .i64 fn.2.1, .string fn.2.2] 28)) := (Below.refl _ _).alloc (Nat.le_refl _) _
 rw [hw2] at bx bl ⊢
 rw [hfb] at bx ⊢
 have HB2 := Veil.mk (blw2 HB1.out bl)
 have HX2 := Veil.mk bx
 clear c0 c1 c2 bx bl hw2 hfb HM0 HB1 HMB
 have hv2 := HBB.out.2.1.below HB2.out
 have c0 : w2.cell? ⟨vb, 0, none⟩ = some (.int .i64 fv.1) := hv2.at_ 0
 have c1 : w2.cell? ⟨vb, 1, none⟩ = some (.int .i64 fv.2.1) := hv2.at_ 1
 have c2 : w2.cell? ⟨vb, 2, none⟩ = some (.string fv.2.2) := hv2.at_ 2
 have d0 : w2.cell? ⟨fb, 0, none⟩ = some (.int .i64 fn.1) := HX2.out.at_ 0
 have d1 : w2.cell? ⟨fb, 1, none⟩ = some (.int .i64 fn.2.1) := HX2.out.at_ 1
 have d2 : w2.cell? ⟨fb, 2, none⟩ = some (.string fn.2.2) := HX2.out.at_ 2
 have HC2 := Veil.mk (HCL.out w2 HB2.out)
 clear hv2 HCL
 go_wp2_with (go_at_call 28; ((with_reducible refine HC2.out.mono ?_); rintro e w6 ⟨rfl, hls, hbx, hsz⟩; have HR6 := Veil.mk (And.intro (hbx rb _ _ (by decide) (.inr (.inr rfl)) (HBB.out.2.2.below HB2.out)) (And.intro hls (And.intro hbx hsz))); clear hls hbx hsz; have z0 : w6.cell? ⟨rb, 0, none⟩ = some (.int .i64 0) := HR6.out.1.at_ 0; have z1 : w6.cell? ⟨rb, 1, none⟩ = some (.int .i64 0) := HR6.out.1.at_ 1; have z2 : w6.cell? ⟨rb, 2, none⟩ = some (.string ⟨#[]⟩) := HR6.out.1.at_ 2; have q0 := HR6.out.1.free 0; have q1 := HR6.out.1.free 1; have q2 := HR6.out.1.free 2))
 have hr3 := ((HR6.out.1.put 0 (.int .i64 x.1)).put 1 (.int .i64 x.2.1)).put 2 (.string x.2.2)
 have y0 := hr3.at_ 0
 have y1 := hr3.at_ 1
 have y2 := hr3.at_ 2
 have hwr : B0 <= rb := Nat.le_trans HEE.out.2 HLO.out.2
 have hp3 := HSQ.out.put (HSQ.out.put (HSQ.out.put HR6.out.2.1 HR6.out.1.lab (.inr (.inr rfl)) hwr 0 (.int .i64 x.1)) (HR6.out.1.put 0 _).lab (.inr (.inr rfl)) hwr 1 (.int .i64 x.2.1)) ((HR6.out.1.put 0 _).put 1 _).lab (.inr (.inr rfl)) hwr 2 (.string x.2.2)
 refine bodyPost_ret (v := (.tuple #[valV x, .int .i64 en])) (by simp [results, Tryz.results20, go_sem, y0, y1, y2]) rfl ⟨rfl, HSQ.out.excl hp3 (fun k hk => .inl (.inl hk)), fun b t c hT hg hx => ?_, ?_⟩
 ·have hne : b ≠ rb := fun e => by
   have h1 := HEE.out.1 b hg
   have h2 := HLO.out.2
   omega
  have h6 := HR6.out.2.2.1 b t c hT (.inl hg) ((hx.below HBB.out.1).below HB2.out)
  exact ((h6.touch (Touch.put (S := fun k => k = rb) rfl 0 (.int .i64 x.1)) hne).touch (Touch.put (S := fun k => k = rb) rfl 1 (.int .i64 x.2.1)) hne).touch (Touch.put (S := fun k => k = rb) rfl 2 (.string x.2.2)) hne
 ·simp only [World.size_setCell]
  have h1 := HBB.out.1.size
  have h2 := HB2.out.size
  have h3 := HR6.out.2.2.2
  omega
end
section
variable {w W W' : World} {h A m ia b n n' : Nat} {ts : List TO} {E : Nat -> Prop} {xs ys : Nat -> Vt} {st st' : Int}
end
end Go.Proofs.YtahkohfppakaiaaGreatDoor
