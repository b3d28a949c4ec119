/- Texts of the stage, joined: Uh. -/
import Derived.Test.YtahkohfppakaiaaGreatDoorBi
import Derived.Test.YtahkohfppakaiaaGreatDoorBh
import Derived.Lib.AppendIntMem
set_option maxHeartbeats 40000000
set_option maxRecDepth 100000
namespace Go.Proofs.YtahkohfppakaiaaGreatDoor
open Go Go.RowKit
attribute [local go_sem] Oper.semAt_some
section
variable {ts : List TO} {p q : Nat} {t' x : TO}
theorem sa_ne (hq : q < ts.length) (hne : p ≠ q) : (ts.set p t' ++ [x])[q]? = ts[q]? := by rw [List.getElem?_append_left (by rw [List.length_set]; exact hq), List.getElem?_set_ne hne]
theorem sa_eq (hp : p < ts.length) : (ts.set p t' ++ [x])[p]? = some t' := by rw [List.getElem?_append_left (by rw [List.length_set]; exact hp), List.getElem?_set_self hp]
theorem sa_new : (ts.set p t' ++ [x])[ts.length]? = some x := by rw [List.getElem?_append_right (by rw [List.length_set]; exact Nat.le_refl _), List.length_set, Nat.sub_self]; rfl
theorem sa_len : (ts.set p t' ++ [x]).length = ts.length + 1 := by rw [List.length_append, List.length_set]; rfl
end
def PlT (t : TO) (cl : Int) (E : List En) : Prop := t.cl = cl /\ t.proto = 0 /\ t.ev = .slice none 0 0 /\ t.fn = .nilIface /\ t.kd = kd0 /\ t.O = E
structure WS (W : World) (h A m : Nat) (f : MF) (n : Nat) (E2 EA E11 : List En) (ts : List TO) (w : World) : Prop where
 mp : MP w h A m f ts
 bk : Bk A W w
 len : ts.length = 22 + n
 pl : ∀ k, k < 21 -> k ≠ 2 -> k ≠ 11 -> ∃ t, ts[k]? = some t /\ PlT t 0 []
 p2 : ∃ t, ts[2]? = some t /\ PlT t 1 E2
 p11 : ∃ t, ts[11]? = some t /\ PlT t 0 E11
 fn : ∀ j, j < n -> ∃ t, ts[22 + j]? = some t /\ NatF f t (150 + (j : Int)) (decide (j = 0)) /\ (j = 0 -> t.O = EA)
section
variable {W w w' : World} {h A m n : Nat} {f : MF} {E2 EA E11 : List En} {ts : List TO}
theorem WS.on (S : WS W h A m f n E2 EA E11 ts w) (hb : Below w.heap.size w w') : WS W h A m f n E2 EA E11 ts w' := ⟨S.mp.on hb, S.bk.trans (Bk.of_below (Nat.le_of_lt S.mp.mm.alt) hb), S.len, S.pl, S.p2, S.p11, S.fn⟩
theorem WS.con (S : WS W h A m f 0 [] EA [] ts w) (hf : f 2 = 3) :
  Calls Tryz.prog 68 #[.pointer (some ⟨m, 0, none⟩), .int .i64 2, .string ⟨#[65, 114, 114, 97, 121]⟩, .int .i64 150, .int .i64 1] w fun e w' => e = .returned (valV (9, 23, ⟨#[]⟩)) /\ ∃ ts', WS W h A m f 1 [(kCon, (9, 23, ⟨#[]⟩), 5)] [(kLen, (3, 1, ⟨#[]⟩), 4), (kName, (7, 0, ⟨(uOf ⟨#[65, 114, 114, 97, 121]⟩).toArray⟩), 4), (kProto, (9, 3, ⟨#[]⟩), 0)] [] ts' w' /\ Bk A w w' := by
 obtain ⟨t, ht, p1, p2, p3, p4, p5, p6⟩ := S.p2
 have hl := S.len
 have hm := S.mp.constructor (p := 2) ht (by decide) (by rw [hf]; rfl) (by rw [p1]; rfl) (by rw [p6]; show 0 < 40000; omega) (by omega) 150 1 ⟨#[65, 114, 114, 97, 121]⟩ (by rw [p1]; exact .inr (.inr ⟨rfl, _, rfl, by decide +kernel, by decide +kernel, by decide +kernel⟩)) (by decide) (by rw [p6]; rfl) (by rw [p5])
 rw [hl] at hm
 refine hm.mono ?_
 rintro e w' ⟨he, b, pv, F, pv2, F2, h4, h5⟩
 refine ⟨he, _, ⟨h4, S.bk.trans h5, by rw [sa_len, hl], fun k hk h2 h11 => ?_, ⟨_, sa_eq (by omega), p1, p2, p3, p4, p5, by rw [p6]; rfl⟩, ?_, fun j hj => ?_⟩, h5⟩
 ·rw [sa_ne (by omega) (by omega)]
  exact S.pl k hk h2 h11
 ·rw [sa_ne (by omega) (by omega)]
  exact S.p11
 ·obtain rfl : j = 0 := by omega
  exact ⟨_, (by rw [<- hl]; exact sa_new), ⟨rfl, rfl, rfl, rfl⟩, fun _ => rfl⟩
theorem WS.stat (S : WS W h A m f n E2 EA E11 ts w) (h0 : 0 < n) (hn : n < 1000) (hEA : EA.length < 1000) (id k : Int) (hid : id = 150 + (n : Int)) (nm : ByteArray) (kb : List UInt8) (hs : nm.size <= 16777216) (hkb : uOf nm = kb) (hk : kb.length <= 1000) (hal : EA.all (fun x => decide (x.1 ≠ ((7, 0, ⟨kb.toArray⟩) : Vt))) = true) :
  Calls Tryz.prog 69 #[.pointer (some ⟨m, 0, none⟩), valV (9, 23, ⟨#[]⟩), .string nm, .int .i64 id, .int .i64 k] w fun e w' => e = .returned (.tuple #[]) /\ ∃ ts', WS W h A m f (n + 1) E2 (EA ++ [(((7, 0, ⟨kb.toArray⟩) : Vt), (9, 23 + (n : Int), ⟨#[]⟩), 5)]) E11 ts' w' /\ Bk A w w' := by
 obtain ⟨t, ht, hnf, hO⟩ := S.fn 0 h0
 obtain ⟨n1, n2, n3, n4⟩ := hnf
 have hO := hO rfl
 have hl := S.len
 have hm := S.mp.static (p := 22) ht (by rw [n1]; rfl) (by rw [hO]; omega) (by omega) id k nm kb (.inl (by rw [n1]; rfl)) hs hkb hk (by rw [hO]; exact hal) (by rw [n4])
 rw [hl, show ((22 + n : Nat) : Int) + 1 = 23 + (n : Int) from by omega] at hm
 subst hid
 refine hm.mono ?_
 rintro e w' ⟨he, b, pv, F, pv2, F2, h4, h5⟩
 refine ⟨he, _, ⟨h4, S.bk.trans h5, by rw [sa_len, hl]; rfl, fun q hq h2 h11 => ?_, ?_, ?_, fun j hj => ?_⟩, h5⟩
 ·rw [sa_ne (by omega) (by omega)]
  exact S.pl q hq h2 h11
 ·rw [sa_ne (by omega) (by omega)]
  exact S.p2
 ·rw [sa_ne (by omega) (by omega)]
  exact S.p11
 ·rcases Nat.eq_zero_or_pos j with rfl | hj0
  ·exact ⟨_, sa_eq (by omega), ⟨n1, n2, n3, n4⟩, fun _ => by rw [hO]⟩
  ·rcases Nat.lt_or_ge j n with hjn | hjn
   ·obtain ⟨t9, h9, h8⟩ := S.fn j hjn
    exact ⟨t9, by rw [sa_ne (by omega) (by omega)]; exact h9, h8.1, fun e => absurd e (by omega)⟩
   ·obtain rfl : j = n := by omega
    refine ⟨_, by rw [<- hl]; exact sa_new, ⟨rfl, rfl, ?_, rfl⟩, fun e => absurd e (by omega)⟩
    rw [decide_eq_false (by omega : ¬ j = 0)]
theorem WS.mets (S : WS W h A m f 4 E2 EA E11 ts w) (hT : Lib.TabIs Tryz.prog w "strings.asciiSpace" .u8 Lib.asciiSpaceTab) (hf : f 2 = 3) (hE : E2.length < 1000) (hal : ∀ j, j < 10 -> E2.all (fun x => decide (x.1 ≠ ((7, 0, ⟨(mKey j).toArray⟩) : Vt))) = true) :
  Calls Tryz.prog 70 #[.pointer (some ⟨m, 0, none⟩), .int .i64 2, .int .i64 154, .string ⟨#[112, 117, 115, 104, 49, 32, 112, 111, 112, 48, 32, 118, 97, 108, 117, 101, 115, 48, 32, 107, 101, 121, 115, 48, 32, 101, 110, 116, 114, 105, 101, 115, 48, 32, 102, 111, 114, 69, 97, 99, 104, 49, 32, 109, 97, 112, 49, 32, 105, 110, 100, 101, 120, 79, 102, 49, 32, 106, 111, 105, 110, 49, 32, 115, 108, 105, 99, 101, 50]⟩] w fun e w' => e = .returned (.tuple #[]) /\ ∃ ts', WS W h A m f 14 (E2 ++ mE 26 10) EA E11 ts' w' /\ Bk A w w' := by
 obtain ⟨t, ht, p1, p2, p3, p4, p5, p6⟩ := S.p2
 have hl := S.len
 refine (S.mp.methods hT ht hf p1 (by rw [p6]; omega) (by omega) (by rw [p6]; exact hal) (by rw [p5])).mono ?_
 rintro e w' ⟨he, ts', g, h4⟩
 have h4l := h4.len
 have h4o := h4.old
 have h4p := h4.pr
 have h4f := h4.fn
 rw [hl] at h4l h4o h4p h4f
 refine ⟨he, ts', ⟨h4.mp, S.bk.trans h4.bk, h4l, fun q hq h2 h11 => ?_, ?_, ?_, fun j hj => ?_⟩, h4.bk⟩
 ·rw [h4o q (by omega) h2]
  exact S.pl q hq h2 h11
 ·obtain ⟨t1, h1, ⟨q1, q2, q3, q4, q5, q6⟩, h3⟩ := h4p
  exact ⟨t1, h1, q2.trans p1, q3.trans p2, q4.trans p3, q5.trans p4, q6.trans p5, by rw [h3, p6]⟩
 ·rw [h4o 11 (by omega) (by omega)]
  exact S.p11
 ·rcases Nat.lt_or_ge j 4 with hj4 | hj4
  ·rw [h4o (22 + j) (by omega) (by omega)]
   exact S.fn j hj4
  ·obtain ⟨t9, h9, h8⟩ := h4f (j - 4) (by omega)
   refine ⟨t9, by rw [show 22 + j = 22 + 4 + (j - 4) by omega]; exact h9, ?_, fun e => absurd e (by omega)⟩
   rw [decide_eq_false (by omega : ¬ j = 0), show (150 + (j : Int)) = 154 + ((j - 4 : Nat) : Int) from by omega]
   exact h8
theorem WS.def2 (S : WS W h A m f n E2 EA E11 ts w) {b : Nat} (hb : ∃ t, ts[2]? = some t /\ t.b = b) (hE : E2.length < 1000) (k v : Vt) (hk8 : k.1 = 8) (hk : k.2.2.size <= 1000) (hal : E2.all (fun x => decide (x.1 ≠ k)) = true) :
  Calls Tryz.prog 72 #[.pointer (some ⟨b, 0, none⟩), valV k, valV v, .int .i64 5] w fun e w' => e = .returned (.bool true) /\ ∃ ts', WS W h A m f n (E2 ++ [(k, v, 5)]) EA E11 ts' w' /\ Bk A w w' := by
 obtain ⟨t, ht, p1, p2, p3, p4, p5, p6⟩ := S.p2
 obtain ⟨t0, ht0, rfl⟩ := hb
 rw [ht] at ht0
 cases ht0
 have hl := S.len
 have hk6 : keyT k = k := by unfold keyT; rw [if_neg (by omega)]
 refine (S.mp.define_at (p := 2) ht (by rw [p1]; rfl) (by rw [p6]; omega) 5 k v (.inr (.inl ⟨p1, hk8⟩)) hk6 hk (by rw [p6]; exact hal) (by rw [p5])).mono ?_
 rintro e w' ⟨he, pv', F', h4, h5⟩
 have hlt : 2 < ts.length := by omega
 refine ⟨he, _, ⟨h4, S.bk.trans h5, by rw [List.length_set, hl], fun q hq h2 h11 => ?_, ⟨_, List.getElem?_set_self hlt, p1, p2, p3, p4, p5, by rw [p6]⟩, ?_, fun j hj => ?_⟩, h5⟩
 ·rw [List.getElem?_set_ne (by omega)]
  exact S.pl q hq h2 h11
 ·rw [List.getElem?_set_ne (by omega)]
  exact S.p11
 ·rw [List.getElem?_set_ne (by omega)]
  exact S.fn j hj
theorem WS.met (S : WS W h A m f n E2 EA E11 ts w) (h0 : 0 < n) (hn : n < 1000) (hf : f 11 = 12) (hE : E11.length < 1000) (id k : Int) (hid : id = 150 + (n : Int)) (nm : ByteArray) (kb : List UInt8) (hs : nm.size <= 16777216) (hkb : uOf nm = kb) (hk : kb.length <= 1000) (hal : E11.all (fun x => decide (x.1 ≠ ((7, 0, ⟨kb.toArray⟩) : Vt))) = true) :
  Calls Tryz.prog 73 #[.pointer (some ⟨m, 0, none⟩), .int .i64 11, .string nm, .int .i64 id, .int .i64 k] w fun e w' => e = .returned (.tuple #[]) /\ ∃ ts', WS W h A m f (n + 1) E2 EA (E11 ++ [(((7, 0, ⟨kb.toArray⟩) : Vt), (9, 23 + (n : Int), ⟨#[]⟩), 5)]) ts' w' /\ Bk A w w' := by
 obtain ⟨t, ht, p1, p2, p3, p4, p5, p6⟩ := S.p11
 have hl := S.len
 have hm := S.mp.method (p := 11) ht (by decide) (by rw [hf]; rfl) (by rw [p1]; rfl) (by rw [p6]; omega) (by omega) id k nm kb (.inl (by rw [p1]; rfl)) hs hkb hk (by rw [p6]; exact hal) (by rw [p5])
 rw [hl, show ((22 + n : Nat) : Int) + 1 = 23 + (n : Int) from by omega] at hm
 subst hid
 refine hm.mono ?_
 rintro e w' ⟨he, b, pv, F, pv2, F2, h4, h5⟩
 refine ⟨he, _, ⟨h4, S.bk.trans h5, by rw [sa_len, hl]; rfl, fun q hq h2 h11 => ?_, ?_, ⟨_, sa_eq (by omega), p1, p2, p3, p4, p5, by rw [p6]⟩, fun j hj => ?_⟩, h5⟩
 ·rw [sa_ne (by omega) (by omega)]
  exact S.pl q hq h2 h11
 ·rw [sa_ne (by omega) (by omega)]
  exact S.p2
 ·rcases Nat.lt_or_ge j n with hjn | hjn
  ·obtain ⟨t9, h9, h8⟩ := S.fn j hjn
   exact ⟨t9, by rw [sa_ne (by omega) (by omega)]; exact h9, h8⟩
  ·obtain rfl : j = n := by omega
   refine ⟨_, by rw [<- hl]; exact sa_new, ⟨rfl, rfl, ?_, rfl⟩, fun e => absurd e (by omega)⟩
   rw [decide_eq_false (by omega : ¬ j = 0)]
end
def e2W : List En := [(kCon, (9, 23, ⟨#[]⟩), 5)] ++ mE 26 10 ++ [((8, 22, ⟨#[]⟩), (9, 29, ⟨#[]⟩), 5)]
def eAW : List En := (([(kLen, (3, 1, ⟨#[]⟩), 4), (kName, (7, 0, ⟨(uOf ⟨#[65, 114, 114, 97, 121]⟩).toArray⟩), 4), (kProto, (9, 3, ⟨#[]⟩), 0)] ++ [(((7, 0, ⟨#[0, 105, 0, 115, 0, 65, 0, 114, 0, 114, 0, 97, 0, 121]⟩) : Vt), (9, 24, ⟨#[]⟩), 5)]) ++ [(((7, 0, ⟨#[0, 102, 0, 114, 0, 111, 0, 109]⟩) : Vt), (9, 25, ⟨#[]⟩), 5)]) ++ [(((7, 0, ⟨#[0, 111, 0, 102]⟩) : Vt), (9, 26, ⟨#[]⟩), 5)]
def e11W : List En := [(((7, 0, ⟨#[0, 110, 0, 101, 0, 120, 0, 116]⟩) : Vt), (9, 37, ⟨#[]⟩), 5)]
theorem world_ws {W : World} {h A m : Nat} {f : MF} {ts : List TO} (S : WS W h A m f 0 [] [] [] ts W) (hT : Lib.TabBelow Tryz.prog A W "strings.asciiSpace" .u8 Lib.asciiSpaceTab) (hf : ∀ k, k < 21 -> f k = (k : Int) + 1) (hit : f.it = (8, 22, ⟨#[]⟩)) :
  Calls Tryz.prog 34 #[.pointer (some ⟨m, 0, none⟩)] W fun e w' => ∃ sa, e = .returned (.slice sa 1 1) /\ ∃ ts', WS W h A m f 15 e2W eAW e11W ts' w' := by
 have HF := Veil.mk (And.intro hf hit)
 have HTB := Veil.mk hT
 have HK := Veil.mk (S.con (hf 2 (by decide)))
 clear hf hit hT S
 go_enter Tryz.func34, Tryz.ntmps34
 go_upto_region 4 with (go_at_call 68; ((with_reducible refine HK.out.mono ?_); rintro e w0 ⟨rfl, ts0, hs, hb⟩; have T0 := Veil.mk hs; clear hs hb))
 obtain ⟨vb, hvb⟩ : ∃ vb, w0.heap.size = vb := ⟨_, rfl⟩
 have bb : Below w0.heap.size w0 (w0.alloc (.cells #[.int .i64 9, .int .i64 23, .string ⟨#[]⟩] 28)) := (Below.refl _ _).alloc (Nat.le_refl _) _
 have bx := Box.new w0 28 #[.int .i64 9, .int .i64 23, .string ⟨#[]⟩]
 obtain ⟨w1, hw1⟩ : ∃ w1, w0.alloc (.cells #[.int .i64 9, .int .i64 23, .string ⟨#[]⟩] 28) = w1 := ⟨_, rfl⟩
 rw [hw1] at bb bx
 rw [hvb] at bx
 rw [hw1, hvb]
 have T1 := Veil.mk (And.intro (T0.out.on bb) bx)
 clear bb bx hw1 hvb HK T0
 have HK := Veil.mk (T1.out.1.stat (by decide) (by decide) (by decide) 151 1 (by rfl) ⟨#[105, 115, 65, 114, 114, 97, 121]⟩ [0, 105, 0, 115, 0, 65, 0, 114, 0, 114, 0, 97, 0, 121] (by decide) (by decide +kernel) (by decide) (by decide +kernel))
 have s0 : w1.cell? ⟨vb, 0, none⟩ = some (.int .i64 9) := T1.out.2.at_ 0
 have s1 : w1.cell? ⟨vb, 1, none⟩ = some (.int .i64 23) := T1.out.2.at_ 1
 have s2 : w1.cell? ⟨vb, 2, none⟩ = some (.string ⟨#[]⟩) := T1.out.2.at_ 2
 go_upto_region 5 with (go_at_call 69; ((with_reducible refine HK.out.mono ?_); rintro e w2 ⟨rfl, tsw2, hs, hb⟩; have T2 := Veil.mk (And.intro hs (hb.box T1.out.2)); clear hs hb))
 clear HK s0 s1 s2
 have HK := Veil.mk (T2.out.1.stat (by decide) (by decide) (by decide) 152 1 (by rfl) ⟨#[102, 114, 111, 109]⟩ [0, 102, 0, 114, 0, 111, 0, 109] (by decide) (by decide +kernel) (by decide) (by decide +kernel))
 have s0 : w2.cell? ⟨vb, 0, none⟩ = some (.int .i64 9) := T2.out.2.at_ 0
 have s1 : w2.cell? ⟨vb, 1, none⟩ = some (.int .i64 23) := T2.out.2.at_ 1
 have s2 : w2.cell? ⟨vb, 2, none⟩ = some (.string ⟨#[]⟩) := T2.out.2.at_ 2
 go_upto_region 6 with (go_at_call 69; ((with_reducible refine HK.out.mono ?_); rintro e w3 ⟨rfl, tsw3, hs, hb⟩; have T3 := Veil.mk (And.intro hs (hb.box T2.out.2)); clear hs hb))
 clear HK s0 s1 s2
 have HK := Veil.mk (T3.out.1.stat (by decide) (by decide) (by decide) 153 0 (by rfl) ⟨#[111, 102]⟩ [0, 111, 0, 102] (by decide) (by decide +kernel) (by decide) (by decide +kernel))
 have s0 : w3.cell? ⟨vb, 0, none⟩ = some (.int .i64 9) := T3.out.2.at_ 0
 have s1 : w3.cell? ⟨vb, 1, none⟩ = some (.int .i64 23) := T3.out.2.at_ 1
 have s2 : w3.cell? ⟨vb, 2, none⟩ = some (.string ⟨#[]⟩) := T3.out.2.at_ 2
 go_upto_region 7 with (go_at_call 69; ((with_reducible refine HK.out.mono ?_); rintro e w4 ⟨rfl, tsw4, hs, hb⟩; have T4 := Veil.mk (And.intro hs (hb.box T3.out.2)); clear hs hb))
 clear HK s0 s1 s2
 have HK := Veil.mk (T4.out.1.mets (HTB.out w4 T4.out.1.bk.bel) (HF.out.1 2 (by decide)) (by decide) (fun j hj => ten (P := fun j => ([(kCon, (9, 23, ⟨#[]⟩), 5)] : List En).all (fun x => decide (x.1 ≠ ((7, 0, ⟨(mKey j).toArray⟩) : Vt))) = true) (by decide +kernel) j hj))
 go_upto_region 8 with (go_at_call 70; ((with_reducible refine HK.out.mono ?_); rintro e w5 ⟨rfl, tsw5, hs, hb⟩; have T5 := Veil.mk (And.intro hs (hb.box T4.out.2)); clear hs hb))
 clear HK
 obtain ⟨t2, ht2, hpl2⟩ := T5.out.1.p2
 obtain ⟨b, hb2⟩ : ∃ b, t2.b = b := ⟨_, rfl⟩
 obtain ⟨WD, hWD⟩ : ∃ WD, w5.drew = WD := ⟨_, rfl⟩
 have hdr : Below w5.heap.size w5 WD := by rw [<- hWD]; exact (Below.refl _ _).drew
 have T6 := Veil.mk (And.intro (T5.out.1.on hdr) (T5.out.2.below hdr))
 have HB2 : Veil (∃ t, tsw5[2]? = some t /\ t.b = b /\ PlT t 1 ([(kCon, (9, 23, ⟨#[]⟩), 5)] ++ mE 26 10)) := ⟨t2, ht2, hb2, hpl2⟩
 have HC : Veil (WD.cell? ⟨m, 0, none⟩ = some (.pointer (some ⟨h, 0, none⟩)) /\ WD.cell? ⟨m, 3, none⟩ = some (.int .i64 3)) := ⟨T6.out.1.mp.mm.mb.at_ 0, by have := T6.out.1.mp.mm.mb.at_ 3; rw [show (machV (.pointer (some ⟨h, 0, none⟩)) f hostV)[3]? = some (.int .i64 (f 2)) from rfl, HF.out.1 2 (by decide)] at this; exact this⟩
 have HOB : Veil (Calls Tryz.prog 32 #[.pointer (some ⟨h, 0, none⟩), .int .i64 3] WD fun e w' => e = .returned (.pointer (some ⟨b, 0, none⟩)) /\ w' = WD) := ⟨by rw [<- hb2]; exact T6.out.1.mp.obj_at (p := 2) ht2 (by rw [hpl2.1]; rfl)⟩
 have HWD := Veil.mk hWD
 clear hWD hdr T5 ht2 hpl2 hb2 t2
 refine wp_region_chain [qp m 0, qp m 0, qp m 0, qp h 0, qp m 0, qp m 0, qp m 1, qp m 3, qi 3, qp b 0, qp b 0] (LPh [] (fun _ _ w => w = WD)) [some 23, some 24, some 25, some 26, some 27, some 28, some 29, some 30, some 31, some 32, some 4] (curV' _ [some 23, some 24, some 25, some 26, some 27, some 28, some 29, some 30, some 31, some 32, some 4]) (by kernel_rfl) rfl rfl (puts_cur _ _) (LPh.start (show w5.drew = WD from HWD.out)) ?_ (by kernel_rfl) ?_
 ·refine SY (fun _ S => ?_) ?_
  ·obtain ⟨⟩ := n11 S.hu
   rw [pin S.ha]
   go_simp
   exact S.kL 0
  refine SY (fun _ S => ?_) ?_
  ·obtain ⟨⟩ := n11 S.hu
   obtain rfl := S.q 0
   rw [pin S.ha]
   go_simp
   exact S.kL 1
  refine SY (fun _ S => ?_) ?_
  ·obtain ⟨⟩ := n11 S.hu
   obtain rfl := S.q 1
   rw [pin S.ha]
   go_simp
   exact S.kL 2
  refine SY (fun w' S => ?_) ?_
  ·obtain ⟨⟩ := n11 S.hu
   obtain rfl := S.q 2
   have hst := S.hI.ph.btw1 0 (.inl rfl) (.inl rfl)
   have hst' : WD = w' := (show w' = WD from hst).symm
   clear hst
   subst hst'
   have c0 := HC.out.1
   rw [pin S.ha]
   go_simp
   exact S.kL 3
  refine SY (fun _ S => ?_) ?_
  ·obtain ⟨⟩ := n11 S.hu
   rw [pin S.ha]
   go_simp
   exact S.kL 4
  refine SY (fun _ S => ?_) ?_
  ·obtain ⟨⟩ := n11 S.hu
   obtain rfl := S.q 4
   rw [pin S.ha]
   go_simp
   exact S.kL 5
  refine SY (fun _ S => ?_) ?_
  ·obtain ⟨⟩ := n11 S.hu
   obtain rfl := S.q 5
   rw [pin S.ha]
   go_simp
   exact S.kL 6
  refine SY (fun _ S => ?_) ?_
  ·obtain ⟨⟩ := n11 S.hu
   obtain rfl := S.q 6
   rw [pin S.ha]
   go_simp
   exact S.kL 7
  refine SY (fun w' S => ?_) ?_
  ·obtain ⟨⟩ := n11 S.hu
   obtain rfl := S.q 7
   have hst := S.hI.ph.btw1 0 (.inl rfl) (.inl rfl)
   have hst' : WD = w' := (show w' = WD from hst).symm
   clear hst
   subst hst'
   have c0 := HC.out.2
   rw [pin S.ha]
   go_simp
   exact S.kL 8
  refine SY (fun w' S => ?_) ?_
  ·obtain ⟨⟩ := n11 S.hu
   obtain rfl := S.q 3
   obtain rfl := S.q 8
   have hst := S.hI.ph.btw1 0 (.inl rfl) (.inl rfl)
   have hst' : WD = w' := (show w' = WD from hst).symm
   clear hst
   subst hst'
   rw [pin S.ha]
   go_simp
   go_at_call 32
   refine (HOB.out).mono ?_
   rintro e9 w9 ⟨rfl, h9⟩
   subst w9
   go_simp
   exact S.kL 9
  refine SY (fun _ S => ?_) ?_
  ·obtain ⟨⟩ := n11 S.hu
   obtain rfl := S.q 9
   rw [pin S.ha]
   go_simp
   exact S.kL 10
  exact Steps.nil
 ·intro us wE hus dd hD2 hJ
  obtain ⟨p0, p1, p2, p3, p4, p5, p6⟩ := n11 hus
  have q1 := hJ.ph.all (fun c hc => by cases hc)
  obtain rfl := hJ.vq 0 hD2
  obtain rfl := hJ.vq 1 hD2
  obtain rfl := hJ.vq 2 hD2
  obtain rfl := hJ.vq 3 hD2
  obtain rfl := hJ.vq 4 hD2
  obtain rfl := hJ.vq 5 hD2
  obtain rfl := hJ.vq 6 hD2
  obtain rfl := hJ.vq 7 hD2
  obtain rfl := hJ.vq 8 hD2
  obtain rfl := hJ.vq 9 hD2
  obtain rfl := hJ.vq 10 hD2
  clear hJ hD2
  have hq : wE = WD := q1
  clear q1
  simp only [puts, setAll, List.setIfInBounds_toArray, List.set_cons_zero, List.set_cons_succ]
  subst hq
  clear HC HOB HWD
  have HVL := Veil.mk (val_u ⟨#[118, 97, 108, 117, 101, 115]⟩ (by decide) wE)
  rw [show uOf ⟨#[118, 97, 108, 117, 101, 115]⟩ = [0, 118, 0, 97, 0, 108, 0, 117, 0, 101, 0, 115] from by decide +kernel] at HVL
  have HOW : Veil (∀ W', Below wE.heap.size wE W' -> Calls Tryz.prog 71 #[.pointer (some ⟨b, 0, none⟩), valV (7, 0, ⟨#[0, 118, 0, 97, 0, 108, 0, 117, 0, 101, 0, 115]⟩)] W' fun e w' => e = .returned (.tuple #[valV (9, 29, ⟨#[]⟩), .int .i64 5, .bool true]) /\ Below W'.heap.size W' w') := ⟨fun W' hb => by
   obtain ⟨t2, ht2, hb2, hpl2⟩ := HB2.out
   have h9 := T6.out.1.mp.ownT ht2 (by rw [hpl2.1]; rfl) (7, 0, ⟨#[0, 118, 0, 97, 0, 108, 0, 117, 0, 101, 0, 115]⟩) (by rw [hpl2.1]; exact .inr (.inr ⟨rfl, _, rfl, by decide +kernel, by decide +kernel, by decide +kernel⟩)) (keyT_str _ _) (by decide) W' hb
   rw [hpl2.2.2.2.2.2, hb2, show lookO ([(kCon, (9, 23, ⟨#[]⟩), 5)] ++ mE 26 10) (7, 0, ⟨#[0, 118, 0, 97, 0, 108, 0, 117, 0, 101, 0, 115]⟩) = ((9, 29, ⟨#[]⟩), 5, true) from by decide +kernel] at h9
   exact h9⟩
  go_upto_region 10 with (first | (go_at_call 44; ((with_reducible refine HVL.out.mono ?_); rintro e w7 ⟨rfl, hb7⟩; have HO7 := Veil.mk (And.intro hb7 (HOW.out w7 hb7)); clear hb7)) | (go_at_call 71; ((with_reducible refine HO7.out.2.mono ?_); rintro e w8 ⟨rfl, hb8⟩; have HB8 := Veil.mk (HO7.out.1.trans (hb8.mono HO7.out.1.size)); clear hb8)))
  obtain ⟨xb, hxb⟩ : ∃ xb, w8.heap.size = xb := ⟨_, rfl⟩
  have bb : Below w8.heap.size w8 (w8.alloc (.cells #[.int .i64 9, .int .i64 29, .string ⟨#[]⟩] 28)) := (Below.refl _ _).alloc (Nat.le_refl _) _
  have bx := Box.new w8 28 #[.int .i64 9, .int .i64 29, .string ⟨#[]⟩]
  obtain ⟨w9, hw9⟩ : ∃ w9, w8.alloc (.cells #[.int .i64 9, .int .i64 29, .string ⟨#[]⟩] 28) = w9 := ⟨_, rfl⟩
  rw [hw9] at bb bx
  rw [hxb] at bx
  rw [hw9, hxb]
  obtain ⟨WF, hWF⟩ : ∃ WF, w9.drew = WF := ⟨_, rfl⟩
  have hdr : Below wE.heap.size wE WF := by rw [<- hWF]; exact (HB8.out.trans (bb.mono HB8.out.size)).drew
  have T7 := Veil.mk (And.intro (T6.out.1.on hdr) (T6.out.2.below hdr))
  have bxF : Box WF xb 28 #[.int .i64 9, .int .i64 29, .string ⟨#[]⟩] := by rw [<- hWF]; exact bx.drew
  have HC : Veil (WF.cell? ⟨m, 23, none⟩ = some (.int .i64 8) /\ WF.cell? ⟨m, 24, none⟩ = some (.int .i64 22) /\ WF.cell? ⟨m, 25, none⟩ = some (.string ⟨#[]⟩) /\ WF.cell? ⟨xb, 0, none⟩ = some (.int .i64 9) /\ WF.cell? ⟨xb, 1, none⟩ = some (.int .i64 29) /\ WF.cell? ⟨xb, 2, none⟩ = some (.string ⟨#[]⟩)) := by
   have h3 := T7.out.1.mp.mm.mb.at_ 23
   have h4 := T7.out.1.mp.mm.mb.at_ 24
   have h5 := T7.out.1.mp.mm.mb.at_ 25
   rw [show (machV (.pointer (some ⟨h, 0, none⟩)) f hostV)[23]? = some (.int .i64 f.it.1) from rfl, HF.out.2] at h3
   rw [show (machV (.pointer (some ⟨h, 0, none⟩)) f hostV)[24]? = some (.int .i64 f.it.2.1) from rfl, HF.out.2] at h4
   rw [show (machV (.pointer (some ⟨h, 0, none⟩)) f hostV)[25]? = some (.string f.it.2.2) from rfl, HF.out.2] at h5
   exact ⟨h3, h4, h5, bxF.at_ 0, bxF.at_ 1, bxF.at_ 2⟩
  obtain ⟨P1, hP1⟩ : ∃ P1 : World -> Prop, P1 = fun w' => ∃ ts', WS W h A m f 14 e2W eAW [] ts' w' /\ Box w' vb 28 #[.int .i64 9, .int .i64 23, .string ⟨#[]⟩] := ⟨_, rfl⟩
  have HDF : Veil (Calls Tryz.prog 72 #[.pointer (some ⟨b, 0, none⟩), valV (8, 22, ⟨#[]⟩), valV (9, 29, ⟨#[]⟩), .int .i64 5] WF fun e w' => e = .returned (.bool true) /\ P1 w') := ⟨by
   rw [hP1]
   obtain ⟨t2, ht2, hb2, hpl2⟩ := HB2.out
   refine (T7.out.1.def2 ⟨t2, ht2, hb2⟩ (by decide) (8, 22, ⟨#[]⟩) (9, 29, ⟨#[]⟩) rfl (by decide) (by decide +kernel)).mono ?_
   rintro e w' ⟨he, ts', h4, h5⟩
   exact ⟨he, ts', h4, h5.box T7.out.2⟩⟩
  have HP1 := Veil.mk hP1
  have HWF := Veil.mk hWF
  clear hWF hdr bb bx bxF hw9 hxb T6 T7 hP1 HB8 HO7 HVL HOW HB2
  refine wp_region_chain [qp b 0, qp m 0, qp m 0, qp m 23, qv (8, 22, ⟨#[]⟩), qv (9, 29, ⟨#[]⟩), qq (.bool true)] (LPh [6] (SqSt WF [P1])) [some 40, some 41, some 42, some 43, some 44, some 45, some 46] (curV' _ [some 40, some 41, some 42, some 43, some 44, some 45, some 46]) (by kernel_rfl) rfl rfl (puts_cur _ _) (LPh.start (show _ = WF from HWF.out)) ?_ (by kernel_rfl) ?_
  ·refine SY (fun _ S => ?_) ?_
   ·obtain ⟨⟩ := n7 S.hu
    rw [pin S.ha]
    go_simp
    exact S.kL 0
   refine SY (fun _ S => ?_) ?_
   ·obtain ⟨⟩ := n7 S.hu
    rw [pin S.ha]
    go_simp
    exact S.kL 1
   refine SY (fun _ S => ?_) ?_
   ·obtain ⟨⟩ := n7 S.hu
    obtain rfl := S.q 1
    rw [pin S.ha]
    go_simp
    exact S.kL 2
   refine SY (fun _ S => ?_) ?_
   ·obtain ⟨⟩ := n7 S.hu
    obtain rfl := S.q 2
    rw [pin S.ha]
    go_simp
    exact S.kL 3
   refine SY (fun w' S => ?_) ?_
   ·obtain ⟨⟩ := n7 S.hu
    obtain rfl := S.q 3
    have gb := (S.hI.bwd [4] 6 4 (by kernel_rfl) rfl S.h0)
    have hst := S.hI.ph.btw1 0 (.inl rfl) (.inr ⟨6, rfl, gb⟩)
    have hst' : WF = w' := (show w' = WF from hst).symm
    clear hst
    subst hst'
    have c0 := HC.out.1
    have c1 := HC.out.2.1
    have c2 := HC.out.2.2.1
    clear gb
    rw [pin S.ha]
    go_simp
    exact S.kL 4
   refine SY (fun w' S => ?_) ?_
   ·obtain ⟨⟩ := n7 S.hu
    have gb := (S.hI.bwd [5] 6 5 (by kernel_rfl) rfl S.h0)
    have hst := S.hI.ph.btw1 0 (.inl rfl) (.inr ⟨6, rfl, gb⟩)
    have hst' : WF = w' := (show w' = WF from hst).symm
    clear hst
    subst hst'
    have c0 := HC.out.2.2.2.1
    have c1 := HC.out.2.2.2.2.1
    have c2 := HC.out.2.2.2.2.2
    clear gb
    rw [pin S.ha]
    go_simp
    exact S.kL 5
   refine SY (fun w' S => ?_) ?_
   ·obtain ⟨⟩ := n7 S.hu
    obtain rfl := S.q 0
    obtain rfl := S.q 4
    obtain rfl := S.q 5
    have gb := S.h0
    have hst := S.hI.ph.btw1 0 (.inl rfl) (.inr ⟨6, rfl, gb⟩)
    have hst' : WF = w' := (show w' = WF from hst).symm
    clear hst
    subst hst'
    clear gb
    rw [pin S.ha]
    go_simp
    go_at_call 72
    refine (HDF.out).mono ?_
    rintro e9 w9 ⟨rfl, hm9⟩
    go_simp
    exact S.kS 6 _ (S.hI.ph.next 0 6 _ rfl S.h0 (.inl rfl) (by decide) (hm9))
   exact Steps.nil
  ·intro us wE hus dd hD2 hJ
   obtain ⟨p0, p1, p2, p3, p4, p5, p6, rfl⟩ := lenA7 hus
   have q1 := hJ.ph.all (fun c hc => hD2 c (by
    have : c = 6 := by simpa using hc
    show c < 7
    omega))
   obtain rfl := hJ.vq 0 hD2
   obtain rfl := hJ.vq 1 hD2
   obtain rfl := hJ.vq 2 hD2
   obtain rfl := hJ.vq 3 hD2
   obtain rfl := hJ.vq 4 hD2
   obtain rfl := hJ.vq 5 hD2
   obtain rfl := hJ.vq 6 hD2
   clear hJ hD2
   have HQ := Veil.mk (show P1 wE from q1)
   clear q1
   simp only [puts, setAll, List.setIfInBounds_toArray, List.set_cons_zero, List.set_cons_succ]
   clear HC HDF HWF
   rw [HP1.out] at HQ
   obtain ⟨ts8, hs8, hb8⟩ := HQ.out
   have T8 := Veil.mk (And.intro hs8 hb8)
   have HK := Veil.mk (hs8.met (by decide) (by decide) (HF.out.1 11 (by decide)) (by decide) 164 0 (by rfl) ⟨#[110, 101, 120, 116]⟩ [0, 110, 0, 101, 0, 120, 0, 116] (by decide) (by decide +kernel) (by decide) (by decide +kernel))
   clear hs8 hb8 HQ HP1
   go_upto_region 12 with (go_at_call 73; ((with_reducible refine HK.out.mono ?_); rintro e w10 ⟨rfl, ts10, hs, hb⟩; have T9 := Veil.mk (And.intro hs (hb.box T8.out.2)); clear hs hb))
   have s0 : w10.cell? ⟨vb, 0, none⟩ = some (.int .i64 9) := T9.out.2.at_ 0
   have s1 : w10.cell? ⟨vb, 1, none⟩ = some (.int .i64 23) := T9.out.2.at_ 1
   have s2 : w10.cell? ⟨vb, 2, none⟩ = some (.string ⟨#[]⟩) := T9.out.2.at_ 2
   clear HK T8
   go_wp2
   go_ret
   exact ⟨_, rfl, ts10, T9.out.1.on ((Below.refl _ _).alloc (Nat.le_refl _) _)⟩
end Go.Proofs.YtahkohfppakaiaaGreatDoor
