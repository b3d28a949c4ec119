/- Texts of the stage, joined: Uf Mt. -/
import Derived.Test.YtahkohfppakaiaaGreatDoorBe
set_option maxHeartbeats 40000000
set_option maxRecDepth 100000
namespace Go.Proofs.YtahkohfppakaiaaGreatDoor
open Go Go.RowKit
attribute [local go_sem] Oper.semAt_some
abbrev kProto : Vt := (7, 0, ⟨#[0, 112, 0, 114, 0, 111, 0, 116, 0, 111, 0, 116, 0, 121, 0, 112, 0, 101]⟩)
abbrev kCon : Vt := (7, 0, ⟨#[0, 99, 0, 111, 0, 110, 0, 115, 0, 116, 0, 114, 0, 117, 0, 99, 0, 116, 0, 111, 0, 114]⟩)
section
variable {W W' : World} {h A m : Nat} {f : MF} {os : List OS} {ts ts1 ts2 : List TO}
theorem set_app {p : Nat} {t x : TO} (h : p < ts.length) : (ts ++ [x]).set p t = ts.set p t ++ [x] := by rw [List.set_append_left _ _ h]
theorem app_at {p : Nat} {t x : TO} (h : ts[p]? = some t) : (ts ++ [x])[p]? = some t := by rw [List.getElem?_append_left (List.getElem?_eq_some_iff.1 h).1]; exact h
theorem MP.protoN (H : MP W h A m f ts) (p : Nat) (hp : p < 21) (hf : f p = (p : Int) + 1) : Calls Tryz.prog 37 #[.pointer (some ⟨m, 0, none⟩), .int .i64 (p : Int)] W fun e w' => e = .returned (.int .i64 ((p : Int) + 1)) /\ w' = W := by
 have := H.mm.proto_any p hp
 rwa [hf] at this
theorem MP.method {t : TO} {p : Nat} (H : MP W h A m f ts) (hp : ts[p]? = some t) (hp2 : p < 21) (hf : f p = (p : Int) + 1) (h1 : (t.cl == 100) = false) (hn : t.O.length < 40000) (hl : ts.length < 100000) (id n : Int) (nm : ByteArray) (kb : List UInt8) (hc : NE t.cl (7, 0, ⟨kb.toArray⟩)) (hs : nm.size <= 16777216) (hkb : uOf nm = kb) (hk : kb.length <= 1000) (hal : t.O.all (fun x => decide (x.1 ≠ ((7, 0, ⟨kb.toArray⟩) : Vt))) = true) (hcs : t.kd.cs = false) :
  Calls Tryz.prog 73 #[.pointer (some ⟨m, 0, none⟩), .int .i64 (p : Int), .string nm, .int .i64 id, .int .i64 n] W fun e w' => e = .returned (.tuple #[]) /\ ∃ b pv F pv2 F2, MP w' h A m f (ts.set p ⟨t.b, t.cl, t.proto, pv2, t.ev, t.fn, t.kd, F2, t.O ++ [(((7, 0, ⟨kb.toArray⟩) : Vt), (9, (ts.length : Int) + 1, ⟨#[]⟩), 5)]⟩ ++ [⟨b, 2, f 1, pv, .slice none 0 0, (.iface 167 (.agg #[.bool false])), kdI id, F, [(kLen, (3, n, ⟨#[]⟩), 4), (kName, (7, 0, ⟨(uOf nm).toArray⟩), 4)]⟩]) /\ Bk A W w' := by
 have hlt := (List.getElem?_eq_some_iff.1 hp).1
 have hd : Below W.heap.size W W.drew := (Below.refl _ _).drew
 refine method_w m h t.b p ((p : Int) + 1) id n nm (9, (ts.length : Int) + 1, ⟨#[]⟩) (fun w' => ∃ b pv F, MP w' h A m f (ts ++ [⟨b, 2, f 1, pv, .slice none 0 0, (.iface 167 (.agg #[.bool false])), kdI id, F, [(kLen, (3, n, ⟨#[]⟩), 4), (kName, (7, 0, ⟨(uOf nm).toArray⟩), 4)]⟩]) /\ Bk A W w') _ (H.mm.mb.at_ 0) ⟨fun W1 e1 => ?_⟩ ⟨fun W1 e1 => ?_⟩ ⟨fun W1 e1 => ?_⟩ ⟨fun W1 hW => ?_⟩
 ·subst e1; exact (H.on hd).protoN p hp2 hf
 ·subst e1; exact (H.on hd).obj_at hp h1
 ·subst e1
  refine ((H.on hd).native id n nm false hs hl).mono ?_
  rintro e w' ⟨he, b, pv, F, h2, h3⟩
  exact ⟨he, b, pv, F, h2, (Bk.of_below (Nat.le_of_lt H.mm.alt) hd).trans h3⟩
 ·obtain ⟨b, pv, F, h2, h3⟩ := hW
  refine (h2.own_at (app_at hp) h1 hn _ nm kb hc 5 _ hs hkb hk hal hcs).mono ?_
  rintro e w' ⟨he, pv2, F2, h4, h5⟩
  rw [set_app hlt] at h4
  exact ⟨he, b, pv, F, pv2, F2, h4, h3.trans h5⟩
theorem MP.static {t : TO} {p : Nat} (H : MP W h A m f ts) (hp : ts[p]? = some t) (h1 : (t.cl == 100) = false) (hn : t.O.length < 40000) (hl : ts.length < 100000) (id n : Int) (nm : ByteArray) (kb : List UInt8) (hc : NE t.cl (7, 0, ⟨kb.toArray⟩)) (hs : nm.size <= 16777216) (hkb : uOf nm = kb) (hk : kb.length <= 1000) (hal : t.O.all (fun x => decide (x.1 ≠ ((7, 0, ⟨kb.toArray⟩) : Vt))) = true) (hcs : t.kd.cs = false) :
  Calls Tryz.prog 69 #[.pointer (some ⟨m, 0, none⟩), valV (9, (p : Int) + 1, ⟨#[]⟩), .string nm, .int .i64 id, .int .i64 n] W fun e w' => e = .returned (.tuple #[]) /\ ∃ b pv F pv2 F2, MP w' h A m f (ts.set p ⟨t.b, t.cl, t.proto, pv2, t.ev, t.fn, t.kd, F2, t.O ++ [(((7, 0, ⟨kb.toArray⟩) : Vt), (9, (ts.length : Int) + 1, ⟨#[]⟩), 5)]⟩ ++ [⟨b, 2, f 1, pv, .slice none 0 0, (.iface 167 (.agg #[.bool false])), kdI id, F, [(kLen, (3, n, ⟨#[]⟩), 4), (kName, (7, 0, ⟨(uOf nm).toArray⟩), 4)]⟩]) /\ Bk A W w' := by
 have hlt := (List.getElem?_eq_some_iff.1 hp).1
 refine static_w m h t.b id n nm (9, (p : Int) + 1, ⟨#[]⟩) (9, (ts.length : Int) + 1, ⟨#[]⟩) (fun w' => ∃ b pv F, MP w' h A m f (ts ++ [⟨b, 2, f 1, pv, .slice none 0 0, (.iface 167 (.agg #[.bool false])), kdI id, F, [(kLen, (3, n, ⟨#[]⟩), 4), (kName, (7, 0, ⟨(uOf nm).toArray⟩), 4)]⟩]) /\ Bk A W w') _ (H.mm.mb.at_ 0) H.mm.mb.lt ⟨fun W1 hd => ?_⟩ ⟨fun W1 hd => ?_⟩ ⟨fun W1 hW => ?_⟩
 ·exact (H.on hd).of_at hp h1 _
 ·refine ((H.on hd).native id n nm false hs hl).mono ?_
  rintro e w' ⟨he, b, pv, F, h2, h3⟩
  exact ⟨he, b, pv, F, h2, (Bk.of_below (Nat.le_of_lt H.mm.alt) hd).trans h3⟩
 ·obtain ⟨b, pv, F, h2, h3⟩ := hW
  refine (h2.own_at (app_at hp) h1 hn _ nm kb hc 5 _ hs hkb hk hal hcs).mono ?_
  rintro e w' ⟨he, pv2, F2, h4, h5⟩
  rw [set_app hlt] at h4
  exact ⟨he, b, pv, F, pv2, F2, h4, h3.trans h5⟩
theorem MP.boxed (H : MP W h A m f ts) (v : Vt) : MP (W.alloc (.cells #[.int .i64 v.1, .int .i64 v.2.1, .string v.2.2] 28)) h A m f ts /\ Below W.heap.size W (W.alloc (.cells #[.int .i64 v.1, .int .i64 v.2.1, .string v.2.2] 28)) /\ Box (W.alloc (.cells #[.int .i64 v.1, .int .i64 v.2.1, .string v.2.2] 28)) W.heap.size 28 #[.int .i64 v.1, .int .i64 v.2.1, .string v.2.2] := by
 have bb : Below W.heap.size W (W.alloc (.cells #[.int .i64 v.1, .int .i64 v.2.1, .string v.2.2] 28)) := (Below.refl _ _).alloc (Nat.le_refl _) _
 exact ⟨H.on bb, bb, Box.new W 28 #[.int .i64 v.1, .int .i64 v.2.1, .string v.2.2]⟩
theorem MP.constructor {t : TO} {p : Nat} (H : MP W h A m f ts) (hp : ts[p]? = some t) (hp2 : p < 21) (hf : f p = (p : Int) + 1) (h1 : (t.cl == 100) = false) (hn : t.O.length < 40000) (hl : ts.length < 100000) (id n : Int) (nm : ByteArray) (hc : NE t.cl kCon) (hs : nm.size <= 16777216) (hal : t.O.all (fun x => decide (x.1 ≠ kCon)) = true) (hcs : t.kd.cs = false) :
  Calls Tryz.prog 68 #[.pointer (some ⟨m, 0, none⟩), .int .i64 (p : Int), .string nm, .int .i64 id, .int .i64 n] W fun e w' => e = .returned (valV (9, (ts.length : Int) + 1, ⟨#[]⟩)) /\ ∃ b pv F pv2 F2, MP w' h A m f (ts.set p ⟨t.b, t.cl, t.proto, pv2, t.ev, t.fn, t.kd, F2, t.O ++ [(kCon, (9, (ts.length : Int) + 1, ⟨#[]⟩), 5)]⟩ ++ [⟨b, 2, f 1, pv, .slice none 0 0, (.iface 167 (.agg #[.bool true])), kdI id, F, [(kLen, (3, n, ⟨#[]⟩), 4), (kName, (7, 0, ⟨(uOf nm).toArray⟩), 4), (kProto, (9, (p : Int) + 1, ⟨#[]⟩), 0)]⟩]) /\ Bk A W w' := by
 have hlt := (List.getElem?_eq_some_iff.1 hp).1
 obtain ⟨v, hv⟩ : ∃ v : Vt, ((9, (ts.length : Int) + 1, ⟨#[]⟩) : Vt) = v := ⟨_, rfl⟩
 obtain ⟨rb, hrb⟩ : ∃ rb, W.heap.size = rb := ⟨_, rfl⟩
 have bb : Below W.heap.size W (W.alloc (.cells #[.int .i64 0, .int .i64 0, .string ⟨#[]⟩] 28)) := (Below.refl _ _).alloc (Nat.le_refl _) _
 have b1 := Box.new W 28 #[.int .i64 0, .int .i64 0, .string ⟨#[]⟩]
 obtain ⟨W0, hW0⟩ : ∃ W0, W.alloc (.cells #[.int .i64 0, .int .i64 0, .string ⟨#[]⟩] 28) = W0 := ⟨_, rfl⟩
 rw [hW0] at bb b1
 rw [hrb] at b1
 have hnat := (H.on bb).native id n nm true hs hl
 rw [hv] at hnat
 have HNA := Veil.mk hnat
 have HW0 := Veil.mk (And.intro hW0 hrb)
 have HB0 := Veil.mk (And.intro bb b1)
 have HA : Veil (A <= W.heap.size) := ⟨Nat.le_of_lt H.mm.alt⟩
 have HT := Veil.mk (And.intro hp (And.intro hn (And.intro hc (And.intro hal hcs))))
 have HV := Veil.mk hv
 have HF := Veil.mk (And.intro hp2 hf)
 have HL := Veil.mk hlt
 have H1 := Veil.mk h1
 rw [hv]
 clear hW0 hrb bb b1 hnat hp hn hc hal hcs hv hp2 hf hl hs hlt h1
 go_enter Tryz.func68, Tryz.ntmps68
 go_upto_region 1 with (fail)
 rw [HW0.out.1, HW0.out.2]
 go_upto_region 4 with (go_at_call 104; ((with_reducible refine HNA.out.mono ?_); rintro e w1 ⟨rfl, b, pv, F, hm1, hb1⟩; have HM1 := Veil.mk (And.intro hm1 hb1); clear hm1 hb1))
 obtain ⟨hm2, hb2, bx2⟩ := HM1.out.1.boxed v
 obtain ⟨vb, hvb⟩ : ∃ vb, w1.heap.size = vb := ⟨_, rfl⟩
 obtain ⟨w2, hw2⟩ : ∃ w2, w1.alloc (.cells #[.int .i64 v.1, .int .i64 v.2.1, .string v.2.2] 28) = w2 := ⟨_, rfl⟩
 rw [hw2] at hm2 hb2 bx2
 rw [hvb] at bx2
 have HW2 := Veil.mk (And.intro hw2 hvb)
 have HM2 := Veil.mk (And.intro hm2 (And.intro (HM1.out.2.trans (Bk.of_below (Nat.le_of_lt HM1.out.1.mm.alt) hb2)) bx2))
 have HPR := Veil.mk (hm2.protoN p HF.out.1 HF.out.2)
 rw [hw2, hvb]
 clear hm2 hb2 bx2 hw2 hvb HNA HM1
 go_upto_region 5 with (go_at_call 37; ((with_reducible refine HPR.out.mono ?_); rintro e w3 ⟨rfl, h3⟩; subst w3))
 obtain ⟨WD, hWD⟩ : ∃ WD, w2.drew = WD := ⟨_, rfl⟩
 have hdr : Below w2.heap.size w2 WD := by rw [<- hWD]; exact (Below.refl _ _).drew
 have HM := Veil.mk (And.intro (HM2.out.1.on hdr) (And.intro (HM2.out.2.1.trans (Bk.of_below (Nat.le_of_lt HM2.out.1.mm.alt) hdr)) (HM2.out.2.2.below hdr)))
 have HC1 : Veil (WD.cell? ⟨m, 0, none⟩ = some (.pointer (some ⟨h, 0, none⟩)) /\ WD.cell? ⟨vb, 0, none⟩ = some (.int .i64 v.1) /\ WD.cell? ⟨vb, 1, none⟩ = some (.int .i64 v.2.1) /\ WD.cell? ⟨vb, 2, none⟩ = some (.string v.2.2)) := ⟨HM.out.1.mm.mb.at_ 0, HM.out.2.2.at_ 0, HM.out.2.2.at_ 1, HM.out.2.2.at_ 2⟩
 obtain ⟨O1, hO1⟩ : ∃ O1 : List En, [(kLen, (3, n, ⟨#[]⟩), 4), (kName, (7, 0, ⟨(uOf nm).toArray⟩), 4)] = O1 := ⟨_, rfl⟩
 rw [hO1] at HM
 have hal2 : O1.all (fun x => decide (x.1 ≠ kProto)) = true := by rw [<- hO1]; show (decide (kLen ≠ kProto) && (decide (kName ≠ kProto) && true)) = true; decide +kernel
 have hln2 : O1.length = 2 := by rw [<- hO1]; rfl
 have hpl : (ts ++ [⟨b, 2, f 1, pv, .slice none 0 0, (.iface 167 (.agg #[.bool true])), kdI id, F, O1⟩])[ts.length]? = some ⟨b, 2, f 1, pv, .slice none 0 0, (.iface 167 (.agg #[.bool true])), kdI id, F, O1⟩ := by rw [List.getElem?_append_right (Nat.le_refl _), Nat.sub_self]; rfl
 have HOF : Veil (Calls Tryz.prog 14 #[.pointer (some ⟨h, 0, none⟩), valV v] WD fun e w' => e = .returned (.pointer (some ⟨b, 0, none⟩)) /\ Below WD.heap.size WD w') := ⟨by rw [<- HV.out]; exact HM.out.1.of_at hpl rfl _⟩
 obtain ⟨r, hr⟩ : ∃ r : Int, (p : Int) + 1 = r := ⟨_, rfl⟩
 rw [hr]
 have HVO : Veil (∀ W, Below WD.heap.size WD W -> Calls Tryz.prog 23 #[.int .i64 r] W fun e w' => e = .returned (valV (9, r, ⟨#[]⟩)) /\ Below WD.heap.size WD w') := ⟨fun W1 hb => (object_mk r W1).mono (fun e w' ⟨h1, h2⟩ => ⟨h1, hb.trans (h2.mono hb.size)⟩)⟩
 have HOW : Veil (∀ W1, Below WD.heap.size WD W1 -> Calls Tryz.prog 105 #[.pointer (some ⟨m, 0, none⟩), .pointer (some ⟨b, 0, none⟩), .string ⟨#[112, 114, 111, 116, 111, 116, 121, 112, 101]⟩, valV (9, r, ⟨#[]⟩), .int .i64 0] W1 fun e w' => e = .returned (.tuple #[]) /\ ∃ pv F, MP w' h A m f (ts ++ [⟨b, 2, f 1, pv, .slice none 0 0, (.iface 167 (.agg #[.bool true])), kdI id, F, O1 ++ [(kProto, (9, r, ⟨#[]⟩), 0)]⟩]) /\ Bk A W0 w' /\ Box w' vb 28 #[.int .i64 v.1, .int .i64 v.2.1, .string v.2.2]) := ⟨fun W1 hb => by
  refine ((HM.out.1.on hb).own_at hpl rfl (by show O1.length < 40000; omega) _ ⟨#[112, 114, 111, 116, 111, 116, 121, 112, 101]⟩ [0, 112, 0, 114, 0, 111, 0, 116, 0, 111, 0, 116, 0, 121, 0, 112, 0, 101] (.inl rfl) 0 (9, r, ⟨#[]⟩) (by decide) (by decide +kernel) (by decide) hal2 rfl).mono ?_
  rintro e w' ⟨he, pv3, F3, h4, h5⟩
  rw [List.set_append_right _ _ (Nat.le_refl _), Nat.sub_self] at h4
  have hbw := (Bk.of_below (Nat.le_of_lt HM.out.1.mm.alt) hb).trans h5
  exact ⟨he, pv3, F3, h4, HM.out.2.1.trans hbw, hbw.box HM.out.2.2⟩⟩
 obtain ⟨P2, hP2⟩ : ∃ P2 : World -> Prop, P2 = fun w' => ∃ pv F, MP w' h A m f (ts ++ [⟨b, 2, f 1, pv, .slice none 0 0, (.iface 167 (.agg #[.bool true])), kdI id, F, O1 ++ [(kProto, (9, r, ⟨#[]⟩), 0)]⟩]) /\ Bk A W0 w' /\ Box w' vb 28 #[.int .i64 v.1, .int .i64 v.2.1, .string v.2.2] := ⟨_, rfl⟩
 have HOW : Veil (∀ W1, Below WD.heap.size WD W1 -> Calls Tryz.prog 105 #[.pointer (some ⟨m, 0, none⟩), .pointer (some ⟨b, 0, none⟩), .string ⟨#[112, 114, 111, 116, 111, 116, 121, 112, 101]⟩, valV (9, r, ⟨#[]⟩), .int .i64 0] W1 fun e w' => e = .returned (.tuple #[]) /\ P2 w') := ⟨fun W1 hb => by rw [hP2]; exact HOW.out W1 hb⟩
 have HP2 := Veil.mk hP2
 have HR := Veil.mk hr
 have HO1 := Veil.mk hO1
 have HWD := Veil.mk hWD
 clear hWD hdr HM hal2 hln2 hpl hr hO1 HM2 hP2 HPR
 refine wp_region_chain [qp m 0, qp m 0, qp m 0, qp m 0, qp h 0, qv v, qp b 0, qi r, qv (9, r, ⟨#[]⟩), qq (.tuple #[])] (LPh [6, 8, 9] (SqSt WD [Below WD.heap.size WD, Below WD.heap.size WD, P2])) [some 24, some 25, some 26, some 27, some 28, some 29, some 30, some 31, some 32, some 33] (curV' _ [some 24, some 25, some 26, some 27, some 28, some 29, some 30, some 31, some 32, some 33]) (by kernel_rfl) rfl rfl (puts_cur _ _) (LPh.start (show w2.drew = WD from HWD.out)) ?_ (by kernel_rfl) ?_
 ·refine SY (fun _ S => ?_) ?_
  ·obtain ⟨⟩ := n10 S.hu
   rw [pin S.ha]
   go_simp
   exact S.kL 0
  refine SY (fun _ S => ?_) ?_
  ·obtain ⟨⟩ := n10 S.hu
   rw [pin S.ha]
   go_simp
   exact S.kL 1
  refine SY (fun _ S => ?_) ?_
  ·obtain ⟨⟩ := n10 S.hu
   obtain rfl := S.q 1
   rw [pin S.ha]
   go_simp
   exact S.kL 2
  refine SY (fun _ S => ?_) ?_
  ·obtain ⟨⟩ := n10 S.hu
   obtain rfl := S.q 2
   rw [pin S.ha]
   go_simp
   exact S.kL 3
  refine SY (fun w' S => ?_) ?_
  ·obtain ⟨⟩ := n10 S.hu
   obtain rfl := S.q 3
   have gb := (S.hI.bwd [4] 6 4 (by kernel_rfl) rfl S.h0)
   have hst := S.hI.ph.btw1 0 (.inl rfl) (.inr ⟨6, rfl, gb⟩)
   have hst' : WD = w' := (show w' = WD from hst).symm
   clear hst
   subst hst'
   have c0 := HC1.out.1
   clear gb
   rw [pin S.ha]
   go_simp
   exact S.kL 4
  refine SY (fun w' S => ?_) ?_
  ·obtain ⟨⟩ := n10 S.hu
   have gb := (S.hI.bwd [5] 6 5 (by kernel_rfl) rfl S.h0)
   have hst := S.hI.ph.btw1 0 (.inl rfl) (.inr ⟨6, rfl, gb⟩)
   have hst' : WD = w' := (show w' = WD from hst).symm
   clear hst
   subst hst'
   have c0 := HC1.out.2.1
   have c1 := HC1.out.2.2.1
   have c2 := HC1.out.2.2.2
   clear gb
   rw [pin S.ha]
   go_simp
   exact S.kL 5
  refine SY (fun w' S => ?_) ?_
  ·obtain ⟨⟩ := n10 S.hu
   obtain rfl := S.q 4
   obtain rfl := S.q 5
   have gb := S.h0
   have hst := S.hI.ph.btw1 0 (.inl rfl) (.inr ⟨6, rfl, gb⟩)
   have hst' : WD = w' := (show w' = WD from hst).symm
   clear hst
   subst hst'
   clear gb
   rw [pin S.ha]
   go_simp
   go_at_call 14
   refine (HOF.out).mono ?_
   rintro e9 w9 ⟨rfl, hm9⟩
   go_simp
   exact S.kS 6 _ (S.hI.ph.next 0 6 _ rfl S.h0 (.inl rfl) (by decide) (hm9))
  refine SY (fun _ S => ?_) ?_
  ·obtain ⟨⟩ := n10 S.hu
   rw [pin S.ha]
   go_simp
   exact S.kL 7
  refine SY (fun _ S => ?_) ?_
  ·obtain ⟨⟩ := n10 S.hu
   obtain rfl := S.q 7
   have ga := (gen_after 6 (by kernel_rfl) S.hp)
   have gb := S.h0
   have hst := S.hI.ph.btw1 1 (.inr ⟨6, rfl, ga⟩) (.inr ⟨8, rfl, gb⟩)
   have HST := Veil.mk hst
   clear hst
   have HGA := Veil.mk ga
   clear ga gb
   rw [pin S.ha]
   go_simp
   go_at_call 23
   refine (HVO.out _ HST.out).mono ?_
   rintro e9 w9 ⟨rfl, hm9⟩
   go_simp
   exact S.kS 8 _ (S.hI.ph.next 1 8 _ rfl S.h0 (.inr ⟨6, rfl, HGA.out⟩) (by decide) (hm9))
  refine SY (fun _ S => ?_) ?_
  ·obtain ⟨⟩ := n10 S.hu
   obtain rfl := S.q 0
   obtain rfl := S.q 6
   obtain rfl := S.q 8
   have ga := (gen_after 8 (by kernel_rfl) S.hp)
   have gb := S.h0
   have hst := S.hI.ph.btw1 2 (.inr ⟨8, rfl, ga⟩) (.inr ⟨9, rfl, gb⟩)
   have HST := Veil.mk hst
   clear hst
   have HGA := Veil.mk ga
   clear ga gb
   rw [pin S.ha]
   go_simp
   go_at_call 105
   refine (HOW.out _ HST.out).mono ?_
   rintro e9 w9 ⟨rfl, hm9⟩
   go_simp
   exact S.kS 9 _ (S.hI.ph.next 2 9 _ rfl S.h0 (.inr ⟨8, rfl, HGA.out⟩) (by decide) (hm9))
  exact Steps.nil
 ·intro us wE hus dd hD2 hJ
  obtain ⟨p0, p1, p2, p3, p4, p5, p6, p7, p8⟩ := n10 hus
  have q1 := hJ.ph.all (fun c hc => hD2 c (by
   have : c = 6 \/ c = 8 \/ c = 9 := by simpa using hc
   show c < 10
   omega))
  obtain rfl := hJ.vq 0 hD2
  obtain rfl := hJ.vq 1 hD2
  obtain rfl := hJ.vq 2 hD2
  obtain rfl := hJ.vq 3 hD2
  obtain rfl := hJ.vq 4 hD2
  obtain rfl := hJ.vq 5 hD2
  obtain rfl := hJ.vq 6 hD2
  obtain rfl := hJ.vq 7 hD2
  obtain rfl := hJ.vq 8 hD2
  obtain rfl := hJ.vq 9 hD2
  clear hJ hD2
  have HQ := Veil.mk (show P2 wE from q1)
  clear q1
  simp only [puts, setAll, List.setIfInBounds_toArray, List.set_cons_zero, List.set_cons_succ]
  clear HC1 HOF HVO HOW
  obtain ⟨WE, hWE⟩ : ∃ WE, wE.drew = WE := ⟨_, rfl⟩
  have hdr : Below wE.heap.size wE WE := by rw [<- hWE]; exact (Below.refl _ _).drew
  have hq := HQ.out
  rw [HP2.out] at hq
  obtain ⟨pv3, F3, hm3, hb3, bx3⟩ := hq
  have HM := Veil.mk (And.intro (hm3.on hdr) (And.intro (hb3.trans (Bk.of_below (Nat.le_of_lt hm3.mm.alt) hdr)) (bx3.below hdr)))
  have HC2 : Veil (WE.cell? ⟨m, 0, none⟩ = some (.pointer (some ⟨h, 0, none⟩)) /\ WE.cell? ⟨vb, 0, none⟩ = some (.int .i64 v.1) /\ WE.cell? ⟨vb, 1, none⟩ = some (.int .i64 v.2.1) /\ WE.cell? ⟨vb, 2, none⟩ = some (.string v.2.2)) := ⟨HM.out.1.mm.mb.at_ 0, HM.out.2.2.at_ 0, HM.out.2.2.at_ 1, HM.out.2.2.at_ 2⟩
  have HOB2 : Veil (Calls Tryz.prog 32 #[.pointer (some ⟨h, 0, none⟩), .int .i64 r] WE fun e w' => e = .returned (.pointer (some ⟨t.b, 0, none⟩)) /\ w' = WE) := ⟨by rw [<- HR.out]; exact HM.out.1.obj_at (app_at HT.out.1) H1.out⟩
  obtain ⟨P3, hP3⟩ : ∃ P3 : World -> Prop, P3 = fun w' => ∃ pv F pv2 F2, MP w' h A m f (ts.set p ⟨t.b, t.cl, t.proto, pv2, t.ev, t.fn, t.kd, F2, t.O ++ [(kCon, v, 5)]⟩ ++ [⟨b, 2, f 1, pv, .slice none 0 0, (.iface 167 (.agg #[.bool true])), kdI id, F, O1 ++ [(kProto, (9, r, ⟨#[]⟩), 0)]⟩]) /\ Bk A W0 w' /\ Box w' vb 28 #[.int .i64 v.1, .int .i64 v.2.1, .string v.2.2] := ⟨_, rfl⟩
  have HOW2 : Veil (Calls Tryz.prog 105 #[.pointer (some ⟨m, 0, none⟩), .pointer (some ⟨t.b, 0, none⟩), .string ⟨#[99, 111, 110, 115, 116, 114, 117, 99, 116, 111, 114]⟩, valV v, .int .i64 5] WE fun e w' => e = .returned (.tuple #[]) /\ P3 w') := ⟨by
   rw [hP3]
   refine (HM.out.1.own_at (app_at HT.out.1) H1.out HT.out.2.1 _ ⟨#[99, 111, 110, 115, 116, 114, 117, 99, 116, 111, 114]⟩ [0, 99, 0, 111, 0, 110, 0, 115, 0, 116, 0, 114, 0, 117, 0, 99, 0, 116, 0, 111, 0, 114] HT.out.2.2.1 5 v (by decide) (by decide +kernel) (by decide) HT.out.2.2.2.1 HT.out.2.2.2.2).mono ?_
   rintro e w' ⟨he, pv4, F4, h4, h5⟩
   rw [set_app HL.out] at h4
   exact ⟨he, pv3, F3, pv4, F4, h4, HM.out.2.1.trans h5, h5.box HM.out.2.2⟩⟩
  have HP3 := Veil.mk hP3
  have HWE := Veil.mk hWE
  clear hWE hdr hm3 hb3 bx3 HM hP3 HQ
  go_upto_region 6 with (fail)
  refine wp_region_chain [qp m 0, qp m 0, qp m 0, qp m 0, qp h 0, qi r, qp t.b 0, qv v, qq (.tuple #[])] (LPh [8] (SqSt WE [P3])) [some 34, some 35, some 36, some 37, some 38, some 39, some 40, some 41, some 42] (curV' _ [some 34, some 35, some 36, some 37, some 38, some 39, some 40, some 41, some 42]) (by kernel_rfl) rfl rfl (puts_cur _ _) (LPh.start (show _ = WE from HWE.out)) ?_ (by kernel_rfl) ?_
  ·refine SY (fun _ S => ?_) ?_
   ·obtain ⟨⟩ := n9 S.hu
    rw [pin S.ha]
    go_simp
    exact S.kL 0
   refine SY (fun _ S => ?_) ?_
   ·obtain ⟨⟩ := n9 S.hu
    rw [pin S.ha]
    go_simp
    exact S.kL 1
   refine SY (fun _ S => ?_) ?_
   ·obtain ⟨⟩ := n9 S.hu
    obtain rfl := S.q 1
    rw [pin S.ha]
    go_simp
    exact S.kL 2
   refine SY (fun _ S => ?_) ?_
   ·obtain ⟨⟩ := n9 S.hu
    obtain rfl := S.q 2
    rw [pin S.ha]
    go_simp
    exact S.kL 3
   refine SY (fun w' S => ?_) ?_
   ·obtain ⟨⟩ := n9 S.hu
    obtain rfl := S.q 3
    have gb := (S.hI.bwd [6, 4] 8 4 (by kernel_rfl) rfl S.h0)
    have hst := S.hI.ph.btw1 0 (.inl rfl) (.inr ⟨8, rfl, gb⟩)
    have hst' : WE = w' := (show w' = WE from hst).symm
    clear hst
    subst hst'
    have c0 := HC2.out.1
    clear gb
    rw [pin S.ha]
    go_simp
    exact S.kL 4
   refine SY (fun _ S => ?_) ?_
   ·obtain ⟨⟩ := n9 S.hu
    rw [pin S.ha]
    go_simp
    exact S.kL 5
   refine SY (fun w' S => ?_) ?_
   ·obtain ⟨⟩ := n9 S.hu
    obtain rfl := S.q 4
    obtain rfl := S.q 5
    have gb := (S.hI.bwd [6] 8 6 (by kernel_rfl) rfl S.h0)
    have hst := S.hI.ph.btw1 0 (.inl rfl) (.inr ⟨8, rfl, gb⟩)
    have hst' : WE = w' := (show w' = WE from hst).symm
    clear hst
    subst hst'
    clear gb
    rw [pin S.ha]
    go_simp
    go_at_call 32
    refine (HOB2.out).mono ?_
    rintro e9 w9 ⟨rfl, h9⟩
    subst w9
    go_simp
    exact S.kL 6
   refine SY (fun w' S => ?_) ?_
   ·obtain ⟨⟩ := n9 S.hu
    have gb := (S.hI.bwd [7] 8 7 (by kernel_rfl) rfl S.h0)
    have hst := S.hI.ph.btw1 0 (.inl rfl) (.inr ⟨8, rfl, gb⟩)
    have hst' : WE = w' := (show w' = WE from hst).symm
    clear hst
    subst hst'
    have c0 := HC2.out.2.1
    have c1 := HC2.out.2.2.1
    have c2 := HC2.out.2.2.2
    clear gb
    rw [pin S.ha]
    go_simp
    exact S.kL 7
   refine SY (fun w' S => ?_) ?_
   ·obtain ⟨⟩ := n9 S.hu
    obtain rfl := S.q 0
    obtain rfl := S.q 6
    obtain rfl := S.q 7
    have gb := S.h0
    have hst := S.hI.ph.btw1 0 (.inl rfl) (.inr ⟨8, rfl, gb⟩)
    have hst' : WE = w' := (show w' = WE from hst).symm
    clear hst
    subst hst'
    clear gb
    rw [pin S.ha]
    go_simp
    go_at_call 105
    refine (HOW2.out).mono ?_
    rintro e9 w9 ⟨rfl, hm9⟩
    go_simp
    exact S.kS 8 _ (S.hI.ph.next 0 8 _ rfl S.h0 (.inl rfl) (by decide) (hm9))
   exact Steps.nil
  ·intro us wE hus dd hD2 hJ
   obtain ⟨p0, p1, p2, p3, p4, p5, p6, p7, p8, rfl⟩ := lenA9 hus
   have q1 := hJ.ph.all (fun c hc => hD2 c (by
    have : c = 8 := by simpa using hc
    show c < 9
    omega))
   obtain rfl := hJ.vq 0 hD2
   obtain rfl := hJ.vq 1 hD2
   obtain rfl := hJ.vq 2 hD2
   obtain rfl := hJ.vq 3 hD2
   obtain rfl := hJ.vq 4 hD2
   obtain rfl := hJ.vq 5 hD2
   obtain rfl := hJ.vq 6 hD2
   obtain rfl := hJ.vq 7 hD2
   obtain rfl := hJ.vq 8 hD2
   clear hJ hD2
   have HQ3 := Veil.mk (show P3 wE from q1)
   clear q1
   simp only [puts, setAll, List.setIfInBounds_toArray, List.set_cons_zero, List.set_cons_succ]
   clear HC2 HOB2 HOW2
   have hq := HQ3.out
   rw [HP3.out] at hq
   obtain ⟨pv5, F5, pv6, F6, hm5, hb5, bx5⟩ := hq
   have e0 : wE.cell? ⟨vb, 0, none⟩ = some (.int .i64 v.1) := bx5.at_ 0
   have e1 : wE.cell? ⟨vb, 1, none⟩ = some (.int .i64 v.2.1) := bx5.at_ 1
   have e2 : wE.cell? ⟨vb, 2, none⟩ = some (.string v.2.2) := bx5.at_ 2
   have brb : Box wE rb 28 #[.int .i64 0, .int .i64 0, .string ⟨#[]⟩] := hb5.box HB0.out.2
   have r0 : wE.cell? ⟨rb, 0, none⟩ = some (.int .i64 0) := brb.at_ 0
   have r1 : wE.cell? ⟨rb, 1, none⟩ = some (.int .i64 0) := brb.at_ 1
   have r2 : wE.cell? ⟨rb, 2, none⟩ = some (.string ⟨#[]⟩) := brb.at_ 2
   have g0 := brb.free 0
   have g1 := brb.free 1
   have g2 := brb.free 2
   have HE := Veil.mk (And.intro hm5 (And.intro hb5 (And.intro bx5 brb)))
   clear hm5 hb5 bx5 brb
   go_wp2
   have hr3 := ((HE.out.2.2.2.put 0 (.int .i64 v.1)).put 1 (.int .i64 v.2.1)).put 2 (.string v.2.2)
   have y0 := hr3.at_ 0
   have y1 := hr3.at_ 1
   have y2 := hr3.at_ 2
   have hl0 := HE.out.2.2.2.lab
   have hm6 := ((HE.out.1.putv hl0 0 (.int .i64 v.1)).putv (HE.out.2.2.2.put 0 _).lab 1 (.int .i64 v.2.1)).putv ((HE.out.2.2.2.put 0 _).put 1 _).lab 2 (.string v.2.2)
   have hArb : A <= rb := by have := HA.out; have := HW0.out.2; omega
   have hbE := (Bk.of_below HA.out HB0.out.1).trans HE.out.2.1
   have hbw : Bk A W (((wE.setCell ⟨rb, 0, none⟩ (.int .i64 v.1)).setCell ⟨rb, 1, none⟩ (.int .i64 v.2.1)).setCell ⟨rb, 2, none⟩ (.string v.2.2)) := ⟨((hbE.bel.setCell (p := ⟨rb, 0, none⟩) hArb _).setCell (p := ⟨rb, 1, none⟩) hArb _).setCell (p := ⟨rb, 2, none⟩) hArb _, fun k e9 he hl => by
    have hk : k < rb := by rw [<- HW0.out.2]; exact lab_lt hl
    have hne : ∀ (w9 : World) i u, (w9.setCell ⟨rb, i, none⟩ u).heap[k]? = w9.heap[k]? := fun w9 i u => Below.heap_setCell w9 ⟨rb, i, none⟩ u k (fun e => by have e : k = rb := e; omega)
    rw [hne, hne, hne]
    exact hbE.kv k e9 he hl⟩
   refine bodyPost_ret (v := valV v) (by simp [results, Tryz.results68, go_sem, y0, y1, y2]) rfl ?_
   have h9 := hm6
   rw [<- HO1.out, <- HR.out] at h9
   first | exact ⟨rfl, b, pv5, F5, pv6, F6, h9, hbw⟩ | exact ⟨rfl, ⟨b, pv5, F5, pv6, F6, h9⟩, hbw⟩
end
end Go.Proofs.YtahkohfppakaiaaGreatDoor
namespace Go.Proofs.YtahkohfppakaiaaGreatDoor
open Go Go.RowKit
def prF (i : Nat) : Nat -> Int := fun k => if k < i then (k : Int) + 1 else 0
theorem prF_next (i : Nat) : (fun j => if j = i then ((i : Int) + 1) else prF i j) = prF (i + 1) := by
 funext j
 unfold prF
 by_cases e : j = i
 ·subst e
  rw [if_pos rfl, if_pos (by omega)]
 ·rw [if_neg e]
  by_cases h : j < i
  ·rw [if_pos h, if_pos (by omega)]
  ·rw [if_neg h, if_neg (by omega)]
def McSt (h A m i : Nat) (ts : List TO) (t : TO) (WD : World) : Nat -> (Nat -> Value) -> World -> Prop
 | 0 => fun _ w => w = WD
 | 1 => fun _ w => MP w h A m (mf0 (prF i)) (ts ++ [t]) /\ Below A WD w
 | _ => fun _ w => MP w h A m (mf0 (prF (i + 1))) (ts ++ [t]) /\ Below A WD w
theorem McSt.two {h A m i : Nat} {ts : List TO} {t : TO} {WD w : World} (hi : i < 21) (H : MP w h A m (mf0 (prF i)) (ts ++ [t]) /\ Below A WD w) : MP (w.setCell ⟨m, 1 + i, none⟩ (.int .i64 ((i : Int) + 1))) h A m (mf0 (prF (i + 1))) (ts ++ [t]) /\ Below A WD (w.setCell ⟨m, 1 + i, none⟩ (.int .i64 ((i : Int) + 1))) := by
 obtain ⟨h1, h2⟩ := H.1.setM (1 + i) (.int .i64 ((i : Int) + 1)) (mf0 (prF (i + 1))) (by rw [machV_put _ _ _ _ i hi, <- prF_next i])
 exact ⟨h1, H.2.trans h2.bel⟩
structure PrM (w W : World) (h A m i : Nat) (ts : List TO) : Prop where
 mp : MP W h A m (mf0 (prF i)) ts
 len : ts.length = i
 pl : ∀ (j : Nat) t, ts[j]? = some t -> t = TO.plain t.b (if j = 2 then 1 else 0) 0 (.slice none 0 0)
 bel : Below w.heap.size w W
 lo : w.heap.size <= A
theorem PrM.next {w WD W : World} {h A m i b : Nat} {ts : List TO} {ci : Int} (H : PrM w WD h A m i ts) (hci : (if i = 2 then (1 : Int) else 0) = ci) (hm : MP W h A m (mf0 (prF (i + 1))) (ts ++ [TO.plain b ci 0 (.slice none 0 0)])) (hb : Below A WD W) : PrM w W h A m (i + 1) (ts ++ [TO.plain b ci 0 (.slice none 0 0)]) := by
 refine ⟨hm, by rw [List.length_append, H.len]; rfl, fun j t hj => ?_, H.bel.trans (hb.mono H.lo), H.lo⟩
 rcases Nat.lt_or_ge j ts.length with h9 | h9
 ·rw [List.getElem?_append_left h9] at hj
  exact H.pl j t hj
 ·rw [List.getElem?_append_right h9] at hj
  have hj0 := (List.getElem?_eq_some_iff.1 hj).1
  have e : j = i := by
   have := H.len
   simp at hj0
   omega
  subst e
  rw [H.len, Nat.sub_self] at hj
  have hj : TO.plain b ci 0 (.slice none 0 0) = t := by simpa using hj
  subst hj
  rw [hci]
theorem protos_any (w : World) (Q : Ending -> World -> Prop) (HREST : Veil (∀ (h A m : Nat) (ts : List TO) (w1 : World), PrM w w1 h A m 21 ts -> ∀ b w2, MP w2 h A m { mf0 (prF 21) with it := (8, 22, ⟨#[]⟩) } (ts ++ [TO.sym b (0, 0, ⟨#[]⟩)]) -> Below A w1 w2 -> Calls Tryz.prog 34 #[.pointer (some ⟨m, 0, none⟩)] w2 fun e w3 => ∃ sa, e = .returned (.slice sa 1 1) /\ Q (.returned (.pointer (some ⟨m, 0, none⟩))) w3)) : Calls Tryz.prog 10 #[] w Q := by
 have HVN := Veil.mk (vm_new w)
 go_enter Tryz.func10, Tryz.ntmps10
 go_upto_region 2 with (go_at_call 30; ((with_reducible refine HVN.out.mono ?_); rintro e w1 ⟨h, A, m, rfl, hA, hm, hp1, hx1, hb1⟩))
 have H0 : Veil (PrM w w1 h A m 0 []) := ⟨⟨⟨⟨⟨_, _, _, hp1⟩, by rw [show prF 0 = fun _ => 0 from (by funext k; unfold prF; rw [if_neg (by omega)]), machV_0]; exact hx1, fun o ho => (by cases ho), hm, fun o ho => (by cases ho), by simp⟩, fun t ht => (by cases ht), fun t ht => (by cases ht), fun i j ti tj hi => (by cases hi), fun q hq => (by cases hq)⟩, rfl, fun j t hj => (by cases hj), hb1, hA⟩⟩
 have c0 : w1.cell? ⟨m, 0, none⟩ = some (.pointer (some ⟨h, 0, none⟩)) := hx1.at_ 0
 clear hp1 hb1 hA hm hx1 HVN
 go_wp2
 clear c0
 go_loopw [18] (fun i wr => ∃ (k : Nat) (ts : List TO), k <= 21 /\ i = .int .i64 (k : Int) /\ PrM w wr h A m k ts) (fun i _ => 21 - (intOf i).toNat)
 case atStart => exact ⟨0, [], by omega, rfl, H0.out⟩
 case round =>
  clear H0
  obtain ⟨i, ts, hi, rfl, hpl⟩ := hrel
  have hi0 : (0 : Int) <= (i : Int) := by omega
  by_cases hlt : i < 21
  ·have hlt' : (i : Int) < 21 := by omega
   have hpl2 := Veil.mk hpl
   clear hpl hi
   by_cases hi2 : i = 2
   ·have hi2' : ((i : Int) == 2) = true := by rw [beq_iff_eq]; omega
    have hi2'' : ((i : Int) = 2) = True := by simp; omega
    have HI2 := Veil.mk hi2
    clear hi2
    go_upto_region 10 with (fail)
    obtain ⟨WD, hWD⟩ : ∃ WD, wr.drew = WD := ⟨_, rfl⟩
    have HPD : Veil (PrM w WD h A m i ts) := ⟨by rw [<- hWD]; exact ⟨hpl2.out.mp.on (Below.refl _ _).drew, hpl2.out.len, hpl2.out.pl, hpl2.out.bel.trans ((Below.refl _ _).drew.mono hpl2.out.bel.size), hpl2.out.lo⟩⟩
    have HMA : Veil (Calls Tryz.prog 31 #[.pointer (some ⟨h, 0, none⟩), .int .i64 1, .int .i64 0] WD fun e w' => e = .returned (.tuple #[.int .i64 ((i : Int) + 1), .pointer (some ⟨WD.heap.size, 0, none⟩)]) /\ MP w' h A m (mf0 (prF i)) (ts ++ [(TO.plain WD.heap.size 1 0 (.slice none 0 0))]) /\ Below A WD w') := ⟨by
     refine (HPD.out.mp.make 1 0 rfl (by rw [HPD.out.len]; omega)).mono ?_
     rintro e w' ⟨he, h1, h2⟩
     rw [HPD.out.len] at he
     exact ⟨he, h1, h2.bel⟩⟩
    have HWD := Veil.mk hWD
    clear hWD hpl2
    refine wp_region_chain [qp m 0, qi (i : Int), qp m 0, qp m 0, qp m 0, qp h 0, qi 1, qq (.tuple #[.int .i64 ((i : Int) + 1), .pointer (some ⟨WD.heap.size, 0, none⟩)]), qq (.tuple #[.int .i64 ((i : Int) + 1), .pointer (some ⟨WD.heap.size, 0, none⟩)]), qi ((i : Int) + 1), qp WD.heap.size 0, qp m 0, qp m 1, qp m (1 + i), none] (LPh [7, 14] (McSt h A m i ts (TO.plain WD.heap.size 1 0 (.slice none 0 0)) WD)) [some 24, some 25, some 26, some 27, some 28, some 29, some 30, some 31, some 23, some 32, some 33, some 34, some 35, some 36, none] (curV' _ [some 24, some 25, some 26, some 27, some 28, some 29, some 30, some 31, some 23, some 32, some 33, some 34, some 35, some 36, none]) (by kernel_rfl) rfl rfl (puts_cur _ _) (LPh.start (show wr.drew = WD from HWD.out)) ?_ (by kernel_rfl) ?_
    ·refine SY (fun _ S => ?_) ?_
     ·obtain ⟨⟩ := n15 S.hu
      rw [pin S.ha]
      go_simp
      exact S.kL 0
     refine SY (fun _ S => ?_) ?_
     ·obtain ⟨⟩ := n15 S.hu
      rw [pin S.ha]
      go_simp
      exact S.kL 1
     refine SY (fun _ S => ?_) ?_
     ·obtain ⟨⟩ := n15 S.hu
      rw [pin S.ha]
      go_simp
      exact S.kL 2
     refine SY (fun _ S => ?_) ?_
     ·obtain ⟨⟩ := n15 S.hu
      obtain rfl := S.q 2
      rw [pin S.ha]
      go_simp
      exact S.kL 3
     refine SY (fun _ S => ?_) ?_
     ·obtain ⟨⟩ := n15 S.hu
      obtain rfl := S.q 3
      rw [pin S.ha]
      go_simp
      exact S.kL 4
     refine SY (fun w' S => ?_) ?_
     ·obtain ⟨⟩ := n15 S.hu
      obtain rfl := S.q 4
      have gb := (S.hI.bwd [5] 7 5 (by kernel_rfl) rfl S.h0)
      have hst := S.hI.ph.btw1 0 (.inl rfl) (.inr ⟨7, rfl, gb⟩)
      have hst' : WD = w' := (show w' = WD from hst).symm
      clear hst
      subst hst'
      have c0 : WD.cell? ⟨m, 0, none⟩ = some (.pointer (some ⟨h, 0, none⟩)) := HPD.out.mp.mm.mb.at_ 0
      clear gb
      rw [pin S.ha]
      go_simp
      exact S.kL 5
     refine SY (fun _ S => ?_) ?_
     ·obtain ⟨⟩ := n15 S.hu
      rw [pin S.ha]
      go_simp
      exact S.kL 6
     refine SY (fun w' S => ?_) ?_
     ·obtain ⟨⟩ := n15 S.hu
      obtain rfl := S.q 5
      obtain rfl := S.q 6
      have gb := S.h0
      have hst := S.hI.ph.btw1 0 (.inl rfl) (.inr ⟨7, rfl, gb⟩)
      have hst' : WD = w' := (show w' = WD from hst).symm
      clear hst
      subst hst'
      clear gb
      rw [pin S.ha]
      go_simp
      go_at_call 31
      refine HMA.out.mono ?_
      rintro e9 w9 ⟨rfl, hm9⟩
      go_simp
      exact S.kS 7 _ (S.hI.ph.next 0 7 _ rfl S.h0 (.inl rfl) (by decide) (hm9))
     refine SY (fun _ S => ?_) ?_
     ·obtain ⟨⟩ := n15 S.hu
      obtain rfl := S.q 7
      rw [pin S.ha]
      go_simp
      exact S.kL 8
     refine SY (fun _ S => ?_) ?_
     ·obtain ⟨⟩ := n15 S.hu
      obtain rfl := S.q 8
      rw [pin S.ha]
      go_simp
      exact S.kL 9
     refine SY (fun _ S => ?_) ?_
     ·obtain ⟨⟩ := n15 S.hu
      obtain rfl := S.q 8
      rw [pin S.ha]
      go_simp
      exact S.kL 10
     refine SY (fun _ S => ?_) ?_
     ·obtain ⟨⟩ := n15 S.hu
      obtain rfl := S.q 0
      rw [pin S.ha]
      go_simp
      exact S.kL 11
     refine SY (fun _ S => ?_) ?_
     ·obtain ⟨⟩ := n15 S.hu
      obtain rfl := S.q 11
      rw [pin S.ha]
      go_simp
      exact S.kL 12
     refine SY (fun _ S => ?_) ?_
     ·obtain ⟨⟩ := n15 S.hu
      obtain rfl := S.q 12
      obtain rfl := S.q 1
      have ga := (gen_after 7 (by kernel_rfl) S.hp)
      have gb := (S.hI.bwd [13] 14 13 (by kernel_rfl) rfl S.h0)
      have hst := S.hI.ph.btw1 1 (.inr ⟨7, rfl, ga⟩) (.inr ⟨14, rfl, gb⟩)
      clear hst
      have hix : ((1 : Nat) + i) = 1 + i := rfl
      clear ga gb
      rw [pin S.ha]
      go_simp
      exact S.kL 13
     refine SY (fun w' S => ?_) ?_
     ·obtain ⟨⟩ := n15 S.hu
      obtain rfl := S.q 13
      obtain rfl := S.q 9
      have ga := (gen_after 7 (by kernel_rfl) S.hp)
      have gb := S.h0
      have hst := S.hI.ph.btw1 1 (.inr ⟨7, rfl, ga⟩) (.inr ⟨14, rfl, gb⟩)
      have HST := Veil.mk hst
      clear hst
      have c0 : w'.cell? ⟨m, 1 + i, none⟩ = some (.int .i64 (prF i i)) := by rw [HST.out.1.mm.mb.at_ (1 + i)]; exact machV_at _ _ _ i hlt
      have f0 := HST.out.1.mm.mb.free (1 + i)
      have HGA := Veil.mk ga
      clear ga gb
      rw [pin S.ha]
      go_simp
      exact S.kN 14 undef (S.hI.ph.next 1 14 _ rfl S.h0 (.inr ⟨7, rfl, HGA.out⟩) (by decide) ((McSt.two hlt HST.out)))
     exact Steps.nil
    ·intro us wE hus dd hD2 hJ
     obtain ⟨p0, p1, p2, p3, p4, p5, p6, p7, p8, p9, p10, p11⟩ := n15 hus
     have q1 := hJ.ph.all (fun c hc => hD2 c (by
      have : c = 7 \/ c = 14 := by simpa using hc
      show c < 15
      omega))
     obtain rfl := hJ.vq 0 hD2
     obtain rfl := hJ.vq 1 hD2
     obtain rfl := hJ.vq 2 hD2
     obtain rfl := hJ.vq 3 hD2
     obtain rfl := hJ.vq 4 hD2
     obtain rfl := hJ.vq 5 hD2
     obtain rfl := hJ.vq 6 hD2
     obtain rfl := hJ.vq 7 hD2
     obtain rfl := hJ.vq 8 hD2
     obtain rfl := hJ.vq 9 hD2
     obtain rfl := hJ.vq 10 hD2
     obtain rfl := hJ.vq 11 hD2
     obtain rfl := hJ.vq 12 hD2
     obtain rfl := hJ.vq 13 hD2
     clear hJ hD2
     have HQ := Veil.mk (show MP wE h A m (mf0 (prF (i + 1))) (ts ++ [(TO.plain WD.heap.size 1 0 (.slice none 0 0))]) /\ Below A WD wE from q1)
     clear q1
     simp only [puts, setAll, List.setIfInBounds_toArray, List.set_cons_zero, List.set_cons_succ]
     have HE0 : wE.cell? ⟨m, 0, none⟩ = some (.pointer (some ⟨h, 0, none⟩)) := HQ.out.1.mm.mb.at_ 0
     have HE1 : wE.cell? ⟨m, 1 + i, none⟩ = some (.int .i64 ((i : Int) + 1)) := by rw [HQ.out.1.mm.mb.at_ (1 + i), machV_at _ _ _ i hlt]; show some (Value.int .i64 (prF (i + 1) i)) = _; unfold prF; rw [if_pos (by omega)]
     have HOB := Veil.mk (fun W (hW : Below wE.heap.size wE W) => (HQ.out.1.mm.on hW).obj i (TO.os (TO.plain WD.heap.size 1 0 (.slice none 0 0))) (by rw [List.getElem?_map, List.getElem?_append_right (by rw [HPD.out.len]; omega), HPD.out.len]; simp) (by rw [TO.os_obj rfl]; show (16 : Nat) ≠ 3; decide))
     rw [TO.os_b] at HOB
     obtain ⟨WF, hWF⟩ : ∃ WF, wE.drew = WF := ⟨_, rfl⟩
     have HE0 : WF.cell? ⟨m, 0, none⟩ = some (.pointer (some ⟨h, 0, none⟩)) := by rw [<- hWF]; exact HE0
     have HE1 : WF.cell? ⟨m, 1 + i, none⟩ = some (.int .i64 ((i : Int) + 1)) := by rw [<- hWF]; exact HE1
     have HO := HOB.out WF (by rw [<- hWF]; exact (Below.refl _ _).drew)
     have HO := Veil.mk HO
     have HX : Veil (MP WF h A m (mf0 (prF (i + 1))) (ts ++ [(TO.plain WD.heap.size 1 0 (.slice none 0 0))]) /\ Below A WD WF) := ⟨by rw [<- hWF]; exact ⟨HQ.out.1.on (Below.refl _ _).drew, HQ.out.2.drew⟩⟩
     have HWF := Veil.mk hWF
     clear hWF HQ HOB HMA
     go_upto_region 11 with (fail)
     have HC8 := Veil.mk (And.intro HE0 HE1)
     clear HE0 HE1
     refine wp_region_chain [qp m 0, qp m 0, qp m 0, qp h 0, qp m 0, qi (i : Int), qp m 0, qp m 1, qp m (1 + i), qi ((i : Int) + 1), qp WD.heap.size 0, qq (.bool false)] (LPh [] (fun _ _ w => w = WF)) [some 37, some 38, some 39, some 40, some 41, some 42, some 43, some 44, some 45, some 46, some 47, some 48] (curV' _ [some 37, some 38, some 39, some 40, some 41, some 42, some 43, some 44, some 45, some 46, some 47, some 48]) (by kernel_rfl) rfl rfl (puts_cur _ _) (LPh.start (show wE.drew = WF from HWF.out)) ?_ (by kernel_rfl) ?_
     ·refine SY (fun _ S => ?_) ?_
      ·obtain ⟨⟩ := n12 S.hu
       rw [pin S.ha]
       go_simp
       exact S.kL 0
      refine SY (fun _ S => ?_) ?_
      ·obtain ⟨⟩ := n12 S.hu
       obtain rfl := S.q 0
       rw [pin S.ha]
       go_simp
       exact S.kL 1
      refine SY (fun _ S => ?_) ?_
      ·obtain ⟨⟩ := n12 S.hu
       obtain rfl := S.q 1
       rw [pin S.ha]
       go_simp
       exact S.kL 2
      refine SY (fun w' S => ?_) ?_
      ·obtain ⟨⟩ := n12 S.hu
       obtain rfl := S.q 2
       have hst := S.hI.ph.btw1 0 (.inl rfl) (.inl rfl)
       have hst' : WF = w' := (show w' = WF from hst).symm
       clear hst
       subst hst'
       have c0 := HC8.out.1
       rw [pin S.ha]
       go_simp
       exact S.kL 3
      refine SY (fun _ S => ?_) ?_
      ·obtain ⟨⟩ := n12 S.hu
       rw [pin S.ha]
       go_simp
       exact S.kL 4
      refine SY (fun _ S => ?_) ?_
      ·obtain ⟨⟩ := n12 S.hu
       rw [pin S.ha]
       go_simp
       exact S.kL 5
      refine SY (fun _ S => ?_) ?_
      ·obtain ⟨⟩ := n12 S.hu
       obtain rfl := S.q 4
       rw [pin S.ha]
       go_simp
       exact S.kL 6
      refine SY (fun _ S => ?_) ?_
      ·obtain ⟨⟩ := n12 S.hu
       obtain rfl := S.q 6
       rw [pin S.ha]
       go_simp
       exact S.kL 7
      refine SY (fun _ S => ?_) ?_
      ·obtain ⟨⟩ := n12 S.hu
       obtain rfl := S.q 7
       obtain rfl := S.q 5
       rw [pin S.ha]
       go_simp
       exact S.kL 8
      refine SY (fun w' S => ?_) ?_
      ·obtain ⟨⟩ := n12 S.hu
       obtain rfl := S.q 8
       have hst := S.hI.ph.btw1 0 (.inl rfl) (.inl rfl)
       have hst' : WF = w' := (show w' = WF from hst).symm
       clear hst
       subst hst'
       have c0 := HC8.out.2
       rw [pin S.ha]
       go_simp
       exact S.kL 9
      refine SY (fun w' S => ?_) ?_
      ·obtain ⟨⟩ := n12 S.hu
       obtain rfl := S.q 3
       obtain rfl := S.q 9
       have hst := S.hI.ph.btw1 0 (.inl rfl) (.inl rfl)
       have hst' : WF = w' := (show w' = WF from hst).symm
       clear hst
       subst hst'
       rw [pin S.ha]
       go_simp
       go_at_call 32
       refine HO.out.mono ?_
       rintro e9 w9 ⟨rfl, h9⟩
       subst w9
       go_simp
       exact S.kL 10
      refine SY (fun _ S => ?_) ?_
      ·obtain ⟨⟩ := n12 S.hu
       obtain rfl := S.q 10
       rw [pin S.ha]
       go_simp
       exact S.kL 11
      exact Steps.nil
     ·intro us wE hus dd hD2 hJ
      obtain ⟨p0, p1, p2, p3, p4, p5, p6, p7, p8, p9, p10, p11, rfl⟩ := lenA12 hus
      have q1 := hJ.ph.all (fun c hc => by cases hc)
      obtain rfl := hJ.vq 0 hD2
      obtain rfl := hJ.vq 1 hD2
      obtain rfl := hJ.vq 2 hD2
      obtain rfl := hJ.vq 3 hD2
      obtain rfl := hJ.vq 4 hD2
      obtain rfl := hJ.vq 5 hD2
      obtain rfl := hJ.vq 6 hD2
      obtain rfl := hJ.vq 7 hD2
      obtain rfl := hJ.vq 8 hD2
      obtain rfl := hJ.vq 9 hD2
      obtain rfl := hJ.vq 10 hD2
      obtain rfl := hJ.vq 11 hD2
      clear hJ hD2
      have hq : wE = WF := q1
      clear q1
      simp only [puts, setAll, List.setIfInBounds_toArray, List.set_cons_zero, List.set_cons_succ]
      subst hq
      have HREL : Veil (PrM w wE h A m (i + 1) (ts ++ [(TO.plain WD.heap.size 1 0 (.slice none 0 0))])) := ⟨HPD.out.next (if_pos HI2.out) HX.out.1 HX.out.2⟩
      clear HC8 HO HX HWF HPD HWD
      go_wp2
      go_roundw
      case rel => exact ⟨i + 1, _, by omega, by go_num, HREL.out⟩
      case measure => simp [intOf]; omega
   ·have hi2' : ((i : Int) == 2) = false := by rw [beq_eq_false_iff_ne]; omega
    have hi2'' : ((i : Int) = 2) = False := by simp; omega
    go_upto_region 10 with (fail)
    obtain ⟨WD, hWD⟩ : ∃ WD, wr.drew = WD := ⟨_, rfl⟩
    have HPD : Veil (PrM w WD h A m i ts) := ⟨by rw [<- hWD]; exact ⟨hpl2.out.mp.on (Below.refl _ _).drew, hpl2.out.len, hpl2.out.pl, hpl2.out.bel.trans ((Below.refl _ _).drew.mono hpl2.out.bel.size), hpl2.out.lo⟩⟩
    have HMA : Veil (Calls Tryz.prog 31 #[.pointer (some ⟨h, 0, none⟩), .int .i64 0, .int .i64 0] WD fun e w' => e = .returned (.tuple #[.int .i64 ((i : Int) + 1), .pointer (some ⟨WD.heap.size, 0, none⟩)]) /\ MP w' h A m (mf0 (prF i)) (ts ++ [(TO.plain WD.heap.size 0 0 (.slice none 0 0))]) /\ Below A WD w') := ⟨by
     refine (HPD.out.mp.make 0 0 rfl (by rw [HPD.out.len]; omega)).mono ?_
     rintro e w' ⟨he, h1, h2⟩
     rw [HPD.out.len] at he
     exact ⟨he, h1, h2.bel⟩⟩
    have HWD := Veil.mk hWD
    clear hWD hpl2
    refine wp_region_chain [qp m 0, qi (i : Int), qp m 0, qp m 0, qp m 0, qp h 0, qi 0, qq (.tuple #[.int .i64 ((i : Int) + 1), .pointer (some ⟨WD.heap.size, 0, none⟩)]), qq (.tuple #[.int .i64 ((i : Int) + 1), .pointer (some ⟨WD.heap.size, 0, none⟩)]), qi ((i : Int) + 1), qp WD.heap.size 0, qp m 0, qp m 1, qp m (1 + i), none] (LPh [7, 14] (McSt h A m i ts (TO.plain WD.heap.size 0 0 (.slice none 0 0)) WD)) [some 24, some 25, some 26, some 27, some 28, some 29, some 30, some 31, some 23, some 32, some 33, some 34, some 35, some 36, none] (curV' _ [some 24, some 25, some 26, some 27, some 28, some 29, some 30, some 31, some 23, some 32, some 33, some 34, some 35, some 36, none]) (by kernel_rfl) rfl rfl (puts_cur _ _) (LPh.start (show wr.drew = WD from HWD.out)) ?_ (by kernel_rfl) ?_
    ·refine SY (fun _ S => ?_) ?_
     ·obtain ⟨⟩ := n15 S.hu
      rw [pin S.ha]
      go_simp
      exact S.kL 0
     refine SY (fun _ S => ?_) ?_
     ·obtain ⟨⟩ := n15 S.hu
      rw [pin S.ha]
      go_simp
      exact S.kL 1
     refine SY (fun _ S => ?_) ?_
     ·obtain ⟨⟩ := n15 S.hu
      rw [pin S.ha]
      go_simp
      exact S.kL 2
     refine SY (fun _ S => ?_) ?_
     ·obtain ⟨⟩ := n15 S.hu
      obtain rfl := S.q 2
      rw [pin S.ha]
      go_simp
      exact S.kL 3
     refine SY (fun _ S => ?_) ?_
     ·obtain ⟨⟩ := n15 S.hu
      obtain rfl := S.q 3
      rw [pin S.ha]
      go_simp
      exact S.kL 4
     refine SY (fun w' S => ?_) ?_
     ·obtain ⟨⟩ := n15 S.hu
      obtain rfl := S.q 4
      have gb := (S.hI.bwd [5] 7 5 (by kernel_rfl) rfl S.h0)
      have hst := S.hI.ph.btw1 0 (.inl rfl) (.inr ⟨7, rfl, gb⟩)
      have hst' : WD = w' := (show w' = WD from hst).symm
      clear hst
      subst hst'
      have c0 : WD.cell? ⟨m, 0, none⟩ = some (.pointer (some ⟨h, 0, none⟩)) := HPD.out.mp.mm.mb.at_ 0
      clear gb
      rw [pin S.ha]
      go_simp
      exact S.kL 5
     refine SY (fun _ S => ?_) ?_
     ·obtain ⟨⟩ := n15 S.hu
      rw [pin S.ha]
      go_simp
      exact S.kL 6
     refine SY (fun w' S => ?_) ?_
     ·obtain ⟨⟩ := n15 S.hu
      obtain rfl := S.q 5
      obtain rfl := S.q 6
      have gb := S.h0
      have hst := S.hI.ph.btw1 0 (.inl rfl) (.inr ⟨7, rfl, gb⟩)
      have hst' : WD = w' := (show w' = WD from hst).symm
      clear hst
      subst hst'
      clear gb
      rw [pin S.ha]
      go_simp
      go_at_call 31
      refine HMA.out.mono ?_
      rintro e9 w9 ⟨rfl, hm9⟩
      go_simp
      exact S.kS 7 _ (S.hI.ph.next 0 7 _ rfl S.h0 (.inl rfl) (by decide) (hm9))
     refine SY (fun _ S => ?_) ?_
     ·obtain ⟨⟩ := n15 S.hu
      obtain rfl := S.q 7
      rw [pin S.ha]
      go_simp
      exact S.kL 8
     refine SY (fun _ S => ?_) ?_
     ·obtain ⟨⟩ := n15 S.hu
      obtain rfl := S.q 8
      rw [pin S.ha]
      go_simp
      exact S.kL 9
     refine SY (fun _ S => ?_) ?_
     ·obtain ⟨⟩ := n15 S.hu
      obtain rfl := S.q 8
      rw [pin S.ha]
      go_simp
      exact S.kL 10
     refine SY (fun _ S => ?_) ?_
     ·obtain ⟨⟩ := n15 S.hu
      obtain rfl := S.q 0
      rw [pin S.ha]
      go_simp
      exact S.kL 11
     refine SY (fun _ S => ?_) ?_
     ·obtain ⟨⟩ := n15 S.hu
      obtain rfl := S.q 11
      rw [pin S.ha]
      go_simp
      exact S.kL 12
     refine SY (fun _ S => ?_) ?_
     ·obtain ⟨⟩ := n15 S.hu
      obtain rfl := S.q 12
      obtain rfl := S.q 1
      have ga := (gen_after 7 (by kernel_rfl) S.hp)
      have gb := (S.hI.bwd [13] 14 13 (by kernel_rfl) rfl S.h0)
      have hst := S.hI.ph.btw1 1 (.inr ⟨7, rfl, ga⟩) (.inr ⟨14, rfl, gb⟩)
      clear hst
      have hix : ((1 : Nat) + i) = 1 + i := rfl
      clear ga gb
      rw [pin S.ha]
      go_simp
      exact S.kL 13
     refine SY (fun w' S => ?_) ?_
     ·obtain ⟨⟩ := n15 S.hu
      obtain rfl := S.q 13
      obtain rfl := S.q 9
      have ga := (gen_after 7 (by kernel_rfl) S.hp)
      have gb := S.h0
      have hst := S.hI.ph.btw1 1 (.inr ⟨7, rfl, ga⟩) (.inr ⟨14, rfl, gb⟩)
      have HST := Veil.mk hst
      clear hst
      have c0 : w'.cell? ⟨m, 1 + i, none⟩ = some (.int .i64 (prF i i)) := by rw [HST.out.1.mm.mb.at_ (1 + i)]; exact machV_at _ _ _ i hlt
      have f0 := HST.out.1.mm.mb.free (1 + i)
      have HGA := Veil.mk ga
      clear ga gb
      rw [pin S.ha]
      go_simp
      exact S.kN 14 undef (S.hI.ph.next 1 14 _ rfl S.h0 (.inr ⟨7, rfl, HGA.out⟩) (by decide) ((McSt.two hlt HST.out)))
     exact Steps.nil
    ·intro us wE hus dd hD2 hJ
     obtain ⟨p0, p1, p2, p3, p4, p5, p6, p7, p8, p9, p10, p11⟩ := n15 hus
     have q1 := hJ.ph.all (fun c hc => hD2 c (by
      have : c = 7 \/ c = 14 := by simpa using hc
      show c < 15
      omega))
     obtain rfl := hJ.vq 0 hD2
     obtain rfl := hJ.vq 1 hD2
     obtain rfl := hJ.vq 2 hD2
     obtain rfl := hJ.vq 3 hD2
     obtain rfl := hJ.vq 4 hD2
     obtain rfl := hJ.vq 5 hD2
     obtain rfl := hJ.vq 6 hD2
     obtain rfl := hJ.vq 7 hD2
     obtain rfl := hJ.vq 8 hD2
     obtain rfl := hJ.vq 9 hD2
     obtain rfl := hJ.vq 10 hD2
     obtain rfl := hJ.vq 11 hD2
     obtain rfl := hJ.vq 12 hD2
     obtain rfl := hJ.vq 13 hD2
     clear hJ hD2
     have HQ := Veil.mk (show MP wE h A m (mf0 (prF (i + 1))) (ts ++ [(TO.plain WD.heap.size 0 0 (.slice none 0 0))]) /\ Below A WD wE from q1)
     clear q1
     simp only [puts, setAll, List.setIfInBounds_toArray, List.set_cons_zero, List.set_cons_succ]
     have HE0 : wE.cell? ⟨m, 0, none⟩ = some (.pointer (some ⟨h, 0, none⟩)) := HQ.out.1.mm.mb.at_ 0
     have HE1 : wE.cell? ⟨m, 1 + i, none⟩ = some (.int .i64 ((i : Int) + 1)) := by rw [HQ.out.1.mm.mb.at_ (1 + i), machV_at _ _ _ i hlt]; show some (Value.int .i64 (prF (i + 1) i)) = _; unfold prF; rw [if_pos (by omega)]
     have HOB := Veil.mk (fun W (hW : Below wE.heap.size wE W) => (HQ.out.1.mm.on hW).obj i (TO.os (TO.plain WD.heap.size 0 0 (.slice none 0 0))) (by rw [List.getElem?_map, List.getElem?_append_right (by rw [HPD.out.len]; omega), HPD.out.len]; simp) (by rw [TO.os_obj rfl]; show (16 : Nat) ≠ 3; decide))
     rw [TO.os_b] at HOB
     obtain ⟨WF, hWF⟩ : ∃ WF, wE.drew = WF := ⟨_, rfl⟩
     have HE0 : WF.cell? ⟨m, 0, none⟩ = some (.pointer (some ⟨h, 0, none⟩)) := by rw [<- hWF]; exact HE0
     have HE1 : WF.cell? ⟨m, 1 + i, none⟩ = some (.int .i64 ((i : Int) + 1)) := by rw [<- hWF]; exact HE1
     have HO := HOB.out WF (by rw [<- hWF]; exact (Below.refl _ _).drew)
     have HO := Veil.mk HO
     have HX : Veil (MP WF h A m (mf0 (prF (i + 1))) (ts ++ [(TO.plain WD.heap.size 0 0 (.slice none 0 0))]) /\ Below A WD WF) := ⟨by rw [<- hWF]; exact ⟨HQ.out.1.on (Below.refl _ _).drew, HQ.out.2.drew⟩⟩
     have HWF := Veil.mk hWF
     clear hWF HQ HOB HMA
     go_upto_region 11 with (fail)
     have HC8 := Veil.mk (And.intro HE0 HE1)
     clear HE0 HE1
     refine wp_region_chain [qp m 0, qp m 0, qp m 0, qp h 0, qp m 0, qi (i : Int), qp m 0, qp m 1, qp m (1 + i), qi ((i : Int) + 1), qp WD.heap.size 0, qq (.bool false)] (LPh [] (fun _ _ w => w = WF)) [some 37, some 38, some 39, some 40, some 41, some 42, some 43, some 44, some 45, some 46, some 47, some 48] (curV' _ [some 37, some 38, some 39, some 40, some 41, some 42, some 43, some 44, some 45, some 46, some 47, some 48]) (by kernel_rfl) rfl rfl (puts_cur _ _) (LPh.start (show wE.drew = WF from HWF.out)) ?_ (by kernel_rfl) ?_
     ·refine SY (fun _ S => ?_) ?_
      ·obtain ⟨⟩ := n12 S.hu
       rw [pin S.ha]
       go_simp
       exact S.kL 0
      refine SY (fun _ S => ?_) ?_
      ·obtain ⟨⟩ := n12 S.hu
       obtain rfl := S.q 0
       rw [pin S.ha]
       go_simp
       exact S.kL 1
      refine SY (fun _ S => ?_) ?_
      ·obtain ⟨⟩ := n12 S.hu
       obtain rfl := S.q 1
       rw [pin S.ha]
       go_simp
       exact S.kL 2
      refine SY (fun w' S => ?_) ?_
      ·obtain ⟨⟩ := n12 S.hu
       obtain rfl := S.q 2
       have hst := S.hI.ph.btw1 0 (.inl rfl) (.inl rfl)
       have hst' : WF = w' := (show w' = WF from hst).symm
       clear hst
       subst hst'
       have c0 := HC8.out.1
       rw [pin S.ha]
       go_simp
       exact S.kL 3
      refine SY (fun _ S => ?_) ?_
      ·obtain ⟨⟩ := n12 S.hu
       rw [pin S.ha]
       go_simp
       exact S.kL 4
      refine SY (fun _ S => ?_) ?_
      ·obtain ⟨⟩ := n12 S.hu
       rw [pin S.ha]
       go_simp
       exact S.kL 5
      refine SY (fun _ S => ?_) ?_
      ·obtain ⟨⟩ := n12 S.hu
       obtain rfl := S.q 4
       rw [pin S.ha]
       go_simp
       exact S.kL 6
      refine SY (fun _ S => ?_) ?_
      ·obtain ⟨⟩ := n12 S.hu
       obtain rfl := S.q 6
       rw [pin S.ha]
       go_simp
       exact S.kL 7
      refine SY (fun _ S => ?_) ?_
      ·obtain ⟨⟩ := n12 S.hu
       obtain rfl := S.q 7
       obtain rfl := S.q 5
       rw [pin S.ha]
       go_simp
       exact S.kL 8
      refine SY (fun w' S => ?_) ?_
      ·obtain ⟨⟩ := n12 S.hu
       obtain rfl := S.q 8
       have hst := S.hI.ph.btw1 0 (.inl rfl) (.inl rfl)
       have hst' : WF = w' := (show w' = WF from hst).symm
       clear hst
       subst hst'
       have c0 := HC8.out.2
       rw [pin S.ha]
       go_simp
       exact S.kL 9
      refine SY (fun w' S => ?_) ?_
      ·obtain ⟨⟩ := n12 S.hu
       obtain rfl := S.q 3
       obtain rfl := S.q 9
       have hst := S.hI.ph.btw1 0 (.inl rfl) (.inl rfl)
       have hst' : WF = w' := (show w' = WF from hst).symm
       clear hst
       subst hst'
       rw [pin S.ha]
       go_simp
       go_at_call 32
       refine HO.out.mono ?_
       rintro e9 w9 ⟨rfl, h9⟩
       subst w9
       go_simp
       exact S.kL 10
      refine SY (fun _ S => ?_) ?_
      ·obtain ⟨⟩ := n12 S.hu
       obtain rfl := S.q 10
       rw [pin S.ha]
       go_simp
       exact S.kL 11
      exact Steps.nil
     ·intro us wE hus dd hD2 hJ
      obtain ⟨p0, p1, p2, p3, p4, p5, p6, p7, p8, p9, p10, p11, rfl⟩ := lenA12 hus
      have q1 := hJ.ph.all (fun c hc => by cases hc)
      obtain rfl := hJ.vq 0 hD2
      obtain rfl := hJ.vq 1 hD2
      obtain rfl := hJ.vq 2 hD2
      obtain rfl := hJ.vq 3 hD2
      obtain rfl := hJ.vq 4 hD2
      obtain rfl := hJ.vq 5 hD2
      obtain rfl := hJ.vq 6 hD2
      obtain rfl := hJ.vq 7 hD2
      obtain rfl := hJ.vq 8 hD2
      obtain rfl := hJ.vq 9 hD2
      obtain rfl := hJ.vq 10 hD2
      obtain rfl := hJ.vq 11 hD2
      clear hJ hD2
      have hq : wE = WF := q1
      clear q1
      simp only [puts, setAll, List.setIfInBounds_toArray, List.set_cons_zero, List.set_cons_succ]
      subst hq
      have HREL : Veil (PrM w wE h A m (i + 1) (ts ++ [(TO.plain WD.heap.size 0 0 (.slice none 0 0))])) := ⟨HPD.out.next (if_neg hi2) HX.out.1 HX.out.2⟩
      clear HC8 HO HX HWF HPD HWD
      go_wp2
      go_roundw
      case rel => exact ⟨i + 1, _, by omega, by go_num, HREL.out⟩
      case measure => simp [intOf]; omega
  ·obtain rfl : i = 21 := by omega
   have HL := Veil.mk hpl
   have hsy := hpl.mp.symbol (0, 0, ⟨#[]⟩) (by rw [hpl.len]; omega)
   rw [hpl.len] at hsy
   have HSY := Veil.mk hsy
   have c0 : wr.cell? ⟨m, 0, none⟩ = some (.pointer (some ⟨h, 0, none⟩)) := hpl.mp.mm.mb.at_ 0
   clear hpl hlt hi hi0 hsy
   go_upto_region 15 with (go_at_call 33; ((with_reducible refine HSY.out.mono ?_); rintro e w5 ⟨rfl, b5, hm5, hb5⟩; have z0 : w5.cell? ⟨m, 23, none⟩ = some (.int .i64 0) := hm5.mm.mb.at_ 23; have z1 : w5.cell? ⟨m, 24, none⟩ = some (.int .i64 0) := hm5.mm.mb.at_ 24; have z2 : w5.cell? ⟨m, 25, none⟩ = some (.string ⟨#[]⟩) := hm5.mm.mb.at_ 25; have f0 := hm5.mm.mb.free 23; have f1 := hm5.mm.mb.free 24; have f2 := hm5.mm.mb.free 25; have H5 := Veil.mk (And.intro hm5 hb5); clear hm5 hb5))
   have hq1 := (H5.out.1.setM 23 (.int .i64 8) { mf0 (prF 21) with it := (8, 0, ⟨#[]⟩) } rfl)
   have hq2 := (hq1.1.setM 24 (.int .i64 22) { mf0 (prF 21) with it := (8, 22, ⟨#[]⟩) } rfl)
   have hq3 := (hq2.1.setM 25 (.string ⟨#[]⟩) { mf0 (prF 21) with it := (8, 22, ⟨#[]⟩) } rfl)
   have HWO := Veil.mk (HREST.out h A m ts wr HL.out b5 _ hq3.1 (((H5.out.2.trans hq1.2).trans hq2.2).trans hq3.2).bel)
   clear z0 z1 z2 f0 f1 f2 hq1 hq2 hq3
   go_wp2_with (go_at_call 34; ((with_reducible refine HWO.out.mono ?_); rintro e w6 ⟨sa, rfl, hQ6⟩))
   exact hQ6
end Go.Proofs.YtahkohfppakaiaaGreatDoor
