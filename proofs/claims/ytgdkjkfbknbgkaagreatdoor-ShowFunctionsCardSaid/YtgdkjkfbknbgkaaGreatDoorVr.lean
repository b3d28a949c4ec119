/- ShowFunctions: the law's walk. -/
import Derived.Test.YtgdkjkfbknbgkaaGreatDoorVq
namespace Go.Proofs.YtgdkjkfbknbgkaaGreatDoor.W
open Go.RowKit

theorem is_7 (w : World) : Calls Tryz.prog 94 #[V 3 7 e0] w fun e w' => e = .returned (.bool true) ∧ w.alloc (bxs 3 7 e0) = w' := by
  go_enter Tryz.func94, Tryz.ntmps94
  go_wp2
  go_ret
  exact ⟨rfl, rfl⟩
theorem fmt_7 (w : World) : Calls Tryz.prog 109 #[.int .i64 7, .int .i64 10] w fun e w' => e = .returned (.string ⟨#[55]⟩) ∧ w' = w := by
  have h := Tryz.strconv_FormatInt_10_small 7 (by omega) w
  have e : Lib.decDigits 7 = [55] := by rw [Lib.decDigits, dif_pos (by omega)]; rfl
  rw [e] at h
  exact h
theorem numText_7 (w : World) : Calls Tryz.prog 95 #[V 3 7 e0] w fun e w' => e = .returned (.string ⟨#[55]⟩) ∧ w.alloc (bxs 3 7 e0) = w' := by
  go_enter Tryz.func95, Tryz.ntmps95
  go_wp2_with (first | (go_at_call 109; ((with_reducible refine (fmt_7 _).mono ?_); rintro e w' ⟨rfl, rfl⟩)))
  go_ret
  exact ⟨rfl, rfl⟩
theorem text_7 (w : World) : Calls Tryz.prog 62 #[V 3 7 e0] w fun e w' => e = .returned (.tuple #[.string ⟨#[0, 55]⟩, .int .i64 0]) ∧ Below w.heap.size w w' := by
  have c1 : Hid (ofB ⟨#[55]⟩ = [0, 55]) := by show _ = _; decide +kernel
  go_enter Tryz.func62, Tryz.ntmps62
  go_wp2_with (first | (go_at_call 94; ((with_reducible refine (is_7 _).mono ?_); rintro e w' ⟨rfl, rfl⟩)) | (go_at_call 95; ((with_reducible refine (numText_7 _).mono ?_); rintro e w' ⟨rfl, rfl⟩)) | (go_at_call 20; ((with_reducible refine (of_const _ _ (by decide) c1 _).mono ?_); rintro e w1 ⟨rfl, hb1⟩)))
  go_ret2
  exact ⟨rfl, ((((Below.refl _ _).alloc (Nat.le_refl _) _).alloc (by simp) _).alloc (by simp; omega) _).trans (hb1.mono (by simp; omega))⟩
end Go.Proofs.YtgdkjkfbknbgkaaGreatDoor.W
namespace Go.Proofs.YtgdkjkfbknbgkaaGreatDoor
open Go Go.RowKit

theorem leaf_7 (mv av : Value) (w : World) : Calls Tryz.prog 28 #[mv, valV (3, 7, ⟨#[]⟩), av] w fun e w' => e = .returned (.string ⟨#[55]⟩) ∧ Below w.heap.size w w' :=
  within_text w mv av (3, 7, ⟨#[]⟩) rfl rfl rfl rfl ⟨#[0, 55]⟩ ⟨#[55]⟩ 0 ⟨fun w => W.text_7 w⟩ ⟨fun w => W.go_at [55] ⟨#[0, 55]⟩ ⟨#[55]⟩ ⟨by decide +kernel⟩ (by decide) (by decide) ⟨by decide +kernel⟩ w⟩
theorem PrL.mp {w W : World} {h A m : Nat} {os : List OS} (H : PrL w W h A m 21 os) : ∃ ts0, ts0.length = 21 ∧ MP W h A m (prF 21) ts0 := by
  refine ⟨os.map (fun o => TO.plain o.1 0 0 (.slice none 0 0)), by rw [List.length_map, H.len], ?_, fun t ht => ?_, fun t ht k hk => ?_, fun i j ti tj hi hj hne k hk => ?_⟩
  · have e : (os.map (fun o => TO.plain o.1 0 0 (.slice none 0 0))).map TO.os = os := by
      rw [List.map_map]
      refine (List.map_congr_left (fun o ho => ?_)).trans (List.map_id _)
      show (o.1, obj0 0 0) = o
      rw [← H.pl o ho]
    rw [e]
    exact H.mm
  · obtain ⟨o, ho, rfl⟩ := List.mem_map.1 ht
    exact .inl ⟨rfl, rfl, rfl⟩
  · obtain ⟨o, ho, rfl⟩ := List.mem_map.1 ht
    exact hk.elim
  · obtain ⟨o, ho, rfl⟩ := List.mem_map.1 (List.mem_of_getElem? hi)
    exact hk.elim
/-- The law's state: one function. -/
structure FI (W : World) (h A m fb b : Nat) (ts0 : List TO) (fnv pv : Value) (F : Nat → Prop) (O : List En) : Prop where
  mp : MP W h A m (prF 21) (ts0 ++ [⟨b, 2, prF 21 1, pv, .slice none 0 0, fnv, 9, F, O⟩])
  bx : Box W fb 30 #[.int .i64 9, .int .i64 ((ts0.length : Int) + 1), .string ⟨#[]⟩]
theorem FI.on {W W' : World} {h A m fb b : Nat} {ts0 : List TO} {fnv pv : Value} {F : Nat → Prop} {O : List En} (H : FI W h A m fb b ts0 fnv pv F O) (hb : Below W.heap.size W W') : FI W' h A m fb b ts0 fnv pv F O := ⟨H.mp.on hb, H.bx.below hb⟩
theorem FI.leaf {W : World} {h A m fb b : Nat} {ts0 : List TO} {fnv pv : Value} {F : Nat → Prop} {O : List En} (H : FI W h A m fb b ts0 fnv pv F O) (x : Vt) (fl : Int) (bl : Bool) (hx : lookO O kName = (x, fl, bl)) (hx9 : (x.1 == 9) = false) (r : ByteArray) (hr : r.size ≤ 1000000000) (HW : ∀ (mv av : Value) (w : World), Calls Tryz.prog 28 #[mv, valV x, av] w fun e w' => e = .returned (.string r) ∧ Below w.heap.size w w') (k : Nat) : Shown W m h k (9, (ts0.length : Int) + 1, ⟨#[]⟩) (⟨#[102, 117, 110, 99, 116, 105, 111, 110, 32]⟩ ++ r) := by
  have := H.mp.fnleaf ts0.length ⟨b, 2, prF 21 1, pv, .slice none 0 0, fnv, 9, F, O⟩ (by simp) rfl x fl bl hx hx9 r hr HW ⟨#[]⟩
  cases k with
  | zero => exact .inl this
  | succ k => exact .inl this
theorem FI.shows {W : World} {h A m fb b : Nat} {ts0 : List TO} {fnv pv : Value} {F : Nat → Prop} {O : List En} (H : FI W h A m fb b ts0 fnv pv F O) (x : Vt) (fl : Int) (bl : Bool) (hx : lookO O kName = (x, fl, bl)) (hx9 : (x.1 == 9) = false) (r : ByteArray) (hr : r.size ≤ 1000000000) (HW : ∀ (mv av : Value) (w : World), Calls Tryz.prog 28 #[mv, valV x, av] w fun e w' => e = .returned (.string r) ∧ Below w.heap.size w w') : Calls Tryz.prog 11 #[.pointer (some ⟨m, 0, none⟩), valV (9, (ts0.length : Int) + 1, ⟨#[]⟩)] W fun e w' => e = .returned (.string (⟨#[102, 117, 110, 99, 116, 105, 111, 110, 32]⟩ ++ r)) ∧ Below W.heap.size W w' :=
  show_shown H.mp.mm.cell0 H.mp.mm.mb.lt _ _ (H.leaf x fl bl hx hx9 r hr HW 3)
theorem two_shown {w9 : World} {h A m fb b : Nat} {ts0 : List TO} {fnv pv : Value} {F : Nat → Prop} {O : List En} (H : FI w9 h A m fb b ts0 fnv pv F O) (hx : lookO O kName = ((3, 7, ⟨#[]⟩), 7, true)) (hl : ts0.length < 100) :
    Calls Tryz.prog 24 #[.pointer (some ⟨m, 0, none⟩), .slice (some ⟨w9.heap.size, 0, none⟩) 2 2] (w9.alloc (.cells #[.int .i64 9, .int .i64 ((ts0.length : Int) + 1), .string ⟨#[]⟩, .int .i64 9, .int .i64 ((ts0.length : Int) + 1), .string ⟨#[]⟩] 30)) fun e w' => e = .returned (valV (9, (ts0.length : Int) + 1 + 1, ⟨#[]⟩)) ∧ Below A w9 w' ∧ ∀ W, W = w' → Calls Tryz.prog 11 #[.pointer (some ⟨m, 0, none⟩), valV (9, (ts0.length : Int) + 1 + 1, ⟨#[]⟩)] W fun e w' => e = .returned (.string ⟨#[91, 102, 117, 110, 99, 116, 105, 111, 110, 32, 55, 44, 32, 102, 117, 110, 99, 116, 105, 111, 110, 32, 55, 93]⟩) ∧ Below W.heap.size W w' := by
  have hal : Below w9.heap.size w9 (w9.alloc (.cells #[.int .i64 9, .int .i64 ((ts0.length : Int) + 1), .string ⟨#[]⟩, .int .i64 9, .int .i64 ((ts0.length : Int) + 1), .string ⟨#[]⟩] 30)) := (Below.refl _ _).alloc (Nat.le_refl _) _
  have hr : RowV (w9.alloc (.cells #[.int .i64 9, .int .i64 ((ts0.length : Int) + 1), .string ⟨#[]⟩, .int .i64 9, .int .i64 ((ts0.length : Int) + 1), .string ⟨#[]⟩] 30)) (.slice (some ⟨w9.heap.size, 0, none⟩) 2 2) [(9, (ts0.length : Int) + 1, ⟨#[]⟩), (9, (ts0.length : Int) + 1, ⟨#[]⟩)] := RowV.box _ 2 rfl (Box.new w9 30 _)
  refine ((H.mp.on hal).array _ _ hr (by show 2 ≤ 10000; omega) (by rw [List.length_append]; show ts0.length + 1 < 100000; omega)).mono ?_
  rintro e w' ⟨he, b2, ev, hm, hrow, hk⟩
  have e1 : (((ts0 ++ [(⟨b, 2, prF 21 1, pv, .slice none 0 0, fnv, 9, F, O⟩ : TO)]).length : Nat) : Int) + 1 = (ts0.length : Int) + 1 + 1 := by rw [List.length_append]; show ((ts0.length + 1 : Nat) : Int) + 1 = _; omega
  rw [e1] at he
  refine ⟨he, (hal.mono (Nat.le_of_lt H.mp.mm.alt)).trans hk.bel, ?_⟩
  rintro W rfl
  have hs := hm.fnleaf ts0.length ⟨b, 2, prF 21 1, pv, .slice none 0 0, fnv, 9, F, O⟩ (by rw [List.append_assoc]; simp) rfl (3, 7, ⟨#[]⟩) 7 true hx rfl ⟨#[55]⟩ (by decide) leaf_7 ⟨#[]⟩
  have ha : ArrAt W h (9, (ts0.length : Int) + 1 + 1, ⟨#[]⟩) [(9, (ts0.length : Int) + 1, ⟨#[]⟩), (9, (ts0.length : Int) + 1, ⟨#[]⟩)] := by
    have := hm.mm.arrAt (ts0.length + 1) b2 (objC 1 (prF 21 2) false (.pointer none) ev) (by rw [List.getElem?_map, List.getElem?_append_right (by rw [List.length_append]; show ts0.length + 1 ≤ _; omega), List.length_append]; show Option.map _ ([_][ts0.length + 1 - (ts0.length + 1)]?) = _; rw [Nat.sub_self]; rfl) rfl ev rfl _ hrow (by show 2 ≤ 1000000; omega) ⟨#[]⟩
    rw [show ((ts0.length + 1 : Nat) : Int) = (ts0.length : Int) + 1 by omega] at this
    exact this
  have hsh : Shown W m h (2 + 1) (9, (ts0.length : Int) + 1 + 1, ⟨#[]⟩) ⟨#[91, 102, 117, 110, 99, 116, 105, 111, 110, 32, 55, 44, 32, 102, 117, 110, 99, 116, 105, 111, 110, 32, 55, 93]⟩ := by
    refine .inr ⟨_, [⟨#[102, 117, 110, 99, 116, 105, 111, 110, 32, 55]⟩, ⟨#[102, 117, 110, 99, 116, 105, 111, 110, 32, 55]⟩], ha, rfl, by decide +kernel, fun i y p h1 h2 => ?_, by decide +kernel⟩
    have hs2 : Shown W m h (1 + 1) (9, (ts0.length : Int) + 1, ⟨#[]⟩) ⟨#[102, 117, 110, 99, 116, 105, 111, 110, 32, 55]⟩ := .inl hs
    match i, h1, h2 with
    | 0, h1, h2 => cases h1; cases h2; exact hs2
    | 1, h1, h2 => cases h1; cases h2; exact hs2
  exact show_shown hm.mm.cell0 hm.mm.mb.lt _ _ hsh
set_option maxHeartbeats 4000000 in
set_option maxRecDepth 100000 in
theorem functions_long (nm : ByteArray) (mk : Bool) (hs : (100 : Int) < (nm.size : Int)) (w : World) : Calls Tryz.prog 5 #[.string nm, .bool mk] w fun e w' => e = .returned (.bool true) ∧ Below w.heap.size w w' := by
  have HFT := Veil.mk (fun W => fit_any W)
  go_enter Tryz.func5, Tryz.ntmps5
  go_wp2_with (go_at_call 7; ((with_reducible refine (HFT.out _).mono ?_); rintro e w1 ⟨rfl, hb1⟩))
  go_ret
  exact ⟨rfl, hb1⟩
set_option maxHeartbeats 4000000 in
set_option maxRecDepth 100000 in
theorem functions_short (nm : ByteArray) (mk : Bool) (hs : ¬ (100 : Int) < (nm.size : Int)) (w : World) : Calls Tryz.prog 5 #[.string nm, .bool mk] w fun e w' => e = .returned (.bool true) ∧ Below w.heap.size w w' := by
  have HFT := Veil.mk (fun W => fit_any W)
  have HMC := Veil.mk (fun W => machine_any W)
  have HNS : Veil (nm.size ≤ 100) := ⟨by omega⟩
  go_enter Tryz.func5, Tryz.ntmps5
  go_upto_region 5 with (go_at_call 7; ((with_reducible refine (HFT.out _).mono ?_); rintro e w1 ⟨rfl, hb1⟩; have HB1 := Veil.mk hb1; clear hb1))
  go_upto_region 6 with (go_at_call 9; ((with_reducible refine (HMC.out _).mono ?_); rintro e w2 ⟨h, A, m, os0, rfl, hp2⟩; have HP2 := Veil.mk hp2; clear hp2))
  obtain ⟨ts0, hl0, hmp⟩ := HP2.out.mp
  have HNT := Veil.mk (hmp.native 9 0 nm mk (by have := HNS.out; omega) (by omega))
  have HA : Veil (A ≤ w2.heap.size ∧ w.heap.size ≤ A) := ⟨Nat.le_of_lt hmp.mm.alt, Nat.le_trans HB1.out.size HP2.out.lo⟩
  have HL0 := Veil.mk hl0
  clear hl0 hmp hs
  go_upto_region 7 with (go_at_call 19; ((with_reducible refine HNT.out.mono ?_); rintro e w3 ⟨rfl, b, pv, F, hm3, hk3⟩; have H3 := Veil.mk (And.intro hm3 hk3); clear hm3 hk3))
  obtain ⟨fnv, hfnv⟩ : ∃ fnv : Value, fnv = (.iface 125 (.agg #[.bool mk])) := ⟨_, rfl⟩
  obtain ⟨fb, hfb⟩ : ∃ fb, w3.heap.size = fb := ⟨_, rfl⟩
  obtain ⟨W4, hW4⟩ : ∃ W4, w3.alloc (.cells #[.int .i64 9, .int .i64 ((ts0.length : Int) + 1), .string ⟨#[]⟩] 30) = W4 := ⟨_, rfl⟩
  obtain ⟨O, hO⟩ : ∃ O : List En, O = [(kLen, (3, 0, ⟨#[]⟩), 4), (kName, (7, 0, ⟨(uOf nm).toArray⟩), 4)] := ⟨_, rfl⟩
  have HI4 : Veil (FI W4 h A m fb b ts0 fnv pv F O ∧ Below A w2 W4) := ⟨by
    have hal : Below w3.heap.size w3 (w3.alloc (.cells #[.int .i64 9, .int .i64 ((ts0.length : Int) + 1), .string ⟨#[]⟩] 30)) := (Below.refl _ _).alloc (Nat.le_refl _) _
    rw [← hW4, ← hfb, hfnv, hO]
    exact ⟨⟨H3.out.1.on hal, Box.new w3 30 #[.int .i64 9, .int .i64 ((ts0.length : Int) + 1), .string ⟨#[]⟩]⟩, H3.out.2.bel.trans (hal.mono (Nat.le_trans HA.out.1 H3.out.2.bel.size))⟩⟩
  rw [hW4, hfb]
  have HO := Veil.mk hO
  clear HNT H3 hfnv hW4 hfb hO
  have HOF := Veil.mk (fun w => of_u nm (by have := HNS.out; omega) w)
  have HGO := Veil.mk (fun w => go_u nm (by have := HNS.out; omega) w)
  have hgz : (goT nm).size ≤ 1200 := by have := goT_size nm; have := HNS.out; omega
  have HLN : Veil (∀ (mv av : Value) (w : World), Calls Tryz.prog 28 #[mv, valV (7, 0, ⟨(uOf nm).toArray⟩), av] w fun e w' => e = .returned (.string (goT nm)) ∧ Below w.heap.size w w') := ⟨leaf_str _ _ 0 (fun w => go_u nm (by have := HNS.out; omega) w)⟩
  obtain ⟨g, hg⟩ : ∃ g, goT nm = g := ⟨_, rfl⟩
  obtain ⟨u, hu⟩ : ∃ u, (⟨(uOf nm).toArray⟩ : ByteArray) = u := ⟨_, rfl⟩
  rw [hg] at HGO HLN hgz
  rw [hu] at HGO HOF HLN HO
  clear hg hu
  go_upto_region 8 with (first | (go_at_call 20; ((with_reducible refine (HOF.out _).mono ?_); rintro e w5 ⟨rfl, hb5⟩; have HB5 := Veil.mk hb5; clear hb5)) | (go_at_call 16; ((with_reducible refine (HGO.out _).mono ?_); rintro e w6 ⟨rfl, hb6⟩; have HB6 := Veil.mk (HB5.out.trans (hb6.mono HB5.out.size)); clear hb6)))
  have HI6 := Veil.mk (HI4.out.1.on HB6.out)
  have HSH := Veil.mk (HI6.out.shows (7, 0, u) 4 true (by rw [HO.out]; kernel_rfl) rfl g (by omega) HLN.out)
  have x0 : w6.cell? ⟨fb, 0, none⟩ = some (.int .i64 9) := HI6.out.bx.at_ 0
  have x1 : w6.cell? ⟨fb, 1, none⟩ = some (.int .i64 ((ts0.length : Int) + 1)) := HI6.out.bx.at_ 1
  have x2 : w6.cell? ⟨fb, 2, none⟩ = some (.string ⟨#[]⟩) := HI6.out.bx.at_ 2
  clear HOF HGO HLN HB5
  go_upto_region 10 with (go_at_call 11; ((with_reducible refine HSH.out.mono ?_); rintro e w7 ⟨rfl, hb7⟩; have HI7 := Veil.mk (HI6.out.on hb7); have HB7 := Veil.mk (HB6.out.trans (hb7.mono HB6.out.size)); clear hb7))
  obtain ⟨WD, hWD⟩ : ∃ WD, w7.drew = WD := ⟨_, rfl⟩
  have HI0 : Veil (FI WD h A m fb b ts0 fnv pv F O) := ⟨by rw [← hWD]; exact HI7.out.on (Below.refl _ _).drew⟩
  have HBD : Veil (Below A w2 WD) := ⟨by rw [← hWD]; exact (HI4.out.2.trans (HB7.out.mono (Nat.le_trans HA.out.1 HI4.out.2.size))).drew⟩
  obtain ⟨x, hx⟩ : ∃ x : Vt, x = (7, 0, u) := ⟨_, rfl⟩
  obtain ⟨fl, hfl⟩ : ∃ fl : Int, fl = 4 := ⟨_, rfl⟩
  have HLK : Veil (lookO O kName = (x, fl, true)) := ⟨by rw [HO.out, hx, hfl]; kernel_rfl⟩
  have HFL : Veil ((bits .and .i64 fl 4 == 0) = false) := ⟨by rw [hfl]; decide⟩
  have HOL : Veil (O.length < 100) := ⟨by rw [HO.out]; show 2 < 100; omega⟩
  have HWD := Veil.mk hWD
  clear hWD hx hfl hgz HSH x0 x1 x2 HI6 HB6 HI7 HB7 HI4
  refine wp_region_chain (some (· = .pointer (some ⟨m, 0, none⟩)) :: some (· = .pointer (some ⟨m, 0, none⟩)) :: some (· = .pointer (some ⟨m, 0, none⟩)) :: some (· = .pointer (some ⟨h, 0, none⟩)) :: some (· = valV (9, (ts0.length : Int) + 1, ⟨#[]⟩)) :: some (· = .pointer (some ⟨b, 0, none⟩)) :: some (· = valV kName) :: none :: [] : List (Option (Value → Prop))) (LPh [5, 6, 7] (fun j _ w => match j with | 0 => w = WD | 1 => Below WD.heap.size WD w | 2 => Below WD.heap.size WD w | _ => ∃ F', MP w h A m (prF 21) (ts0 ++ [⟨b, 2, prF 21 1, pv, .slice none 0 0, fnv, 9, F', dropK kName O⟩]) ∧ Bk A WD w)) [some 27, some 28, some 29, some 30, some 31, some 32, some 33, some 34] (curV' _ [some 27, some 28, some 29, some 30, some 31, some 32, some 33, some 34]) (by kernel_rfl) rfl rfl (puts_cur _ _) (LPh.start (show _ = WD from HWD.out)) ?_ (by kernel_rfl) ?_
  · refine Steps.cons rfl (fun bb aa w' hbs hb0 hbp hI K hK => ?_) ?_
    · obtain ⟨us, hus, ha, hI⟩ := hI
      obtain ⟨u0, u1, u2, u3, u4, u5, u6, u7, rfl⟩ := lenA8 hus
      have HI := Veil.mk hI
      clear hI
      rw [ha]
      simp only [puts, setAll, List.setIfInBounds_toArray, List.set_cons_zero, List.set_cons_succ]
      go_simp
      exact hK _ _ (chain_step HI.out hus hbs 0 _ (by show 0 < 8; decide) rfl hbp (val_of rfl rfl) (HI.out.ph.step 0 _ (by decide) (by decide)) (by simp only [puts, setAll, List.set_cons_zero, List.set_cons_succ, List.setIfInBounds_toArray]))
    refine Steps.cons rfl (fun bb aa w' hbs hb0 hbp hI K hK => ?_) ?_
    · obtain ⟨us, hus, ha, hI⟩ := hI
      obtain ⟨u0, u1, u2, u3, u4, u5, u6, u7, rfl⟩ := lenA8 hus
      have e0 : u0 = .pointer (some ⟨m, 0, none⟩) := hI.val 0 _ rfl (gen_after 0 (by kernel_rfl) hbp)
      subst e0
      have HI := Veil.mk hI
      clear hI
      rw [ha]
      simp only [puts, setAll, List.setIfInBounds_toArray, List.set_cons_zero, List.set_cons_succ]
      go_simp
      exact hK _ _ (chain_step HI.out hus hbs 1 _ (by show 1 < 8; decide) rfl hbp (val_of rfl rfl) (HI.out.ph.step 1 _ (by decide) (by decide)) (by simp only [puts, setAll, List.set_cons_zero, List.set_cons_succ, List.setIfInBounds_toArray]))
    refine Steps.cons rfl (fun bb aa w' hbs hb0 hbp hI K hK => ?_) ?_
    · obtain ⟨us, hus, ha, hI⟩ := hI
      obtain ⟨u0, u1, u2, u3, u4, u5, u6, u7, rfl⟩ := lenA8 hus
      have e1 : u1 = .pointer (some ⟨m, 0, none⟩) := hI.val 1 _ rfl (gen_after 1 (by kernel_rfl) hbp)
      subst e1
      have HI := Veil.mk hI
      clear hI
      rw [ha]
      simp only [puts, setAll, List.setIfInBounds_toArray, List.set_cons_zero, List.set_cons_succ]
      go_simp
      exact hK _ _ (chain_step HI.out hus hbs 2 _ (by show 2 < 8; decide) rfl hbp (val_of rfl rfl) (HI.out.ph.step 2 _ (by decide) (by decide)) (by simp only [puts, setAll, List.set_cons_zero, List.set_cons_succ, List.setIfInBounds_toArray]))
    refine Steps.cons rfl (fun bb aa w' hbs hb0 hbp hI K hK => ?_) ?_
    · obtain ⟨us, hus, ha, hI⟩ := hI
      obtain ⟨u0, u1, u2, u3, u4, u5, u6, u7, rfl⟩ := lenA8 hus
      have e2 : u2 = .pointer (some ⟨m, 0, none⟩) := hI.val 2 _ rfl (gen_after 2 (by kernel_rfl) hbp)
      subst e2
      have gb := (hI.bwd [3] 5 3 (by kernel_rfl) rfl hb0)
      have hst := hI.ph.btw1 0 (.inl rfl) (.inr ⟨5, rfl, gb⟩)
      have hst' : WD = w' := (show w' = WD from hst).symm
      clear hst
      subst hst'
      have c0 := HI0.out.mp.mm.cell0
      clear gb
      have HI := Veil.mk hI
      clear hI
      rw [ha]
      simp only [puts, setAll, List.setIfInBounds_toArray, List.set_cons_zero, List.set_cons_succ]
      go_simp
      exact hK _ _ (chain_step HI.out hus hbs 3 _ (by show 3 < 8; decide) rfl hbp (val_of rfl rfl) (HI.out.ph.step 3 _ (by decide) (by decide)) (by simp only [puts, setAll, List.set_cons_zero, List.set_cons_succ, List.setIfInBounds_toArray]))
    refine Steps.cons rfl (fun bb aa w' hbs hb0 hbp hI K hK => ?_) ?_
    · obtain ⟨us, hus, ha, hI⟩ := hI
      obtain ⟨u0, u1, u2, u3, u4, u5, u6, u7, rfl⟩ := lenA8 hus
      have gb := (hI.bwd [4] 5 4 (by kernel_rfl) rfl hb0)
      have hst := hI.ph.btw1 0 (.inl rfl) (.inr ⟨5, rfl, gb⟩)
      have hst' : WD = w' := (show w' = WD from hst).symm
      clear hst
      subst hst'
      have c0 : WD.cell? ⟨fb, 0, none⟩ = some (.int .i64 9) := HI0.out.bx.at_ 0
      have c1 : WD.cell? ⟨fb, 1, none⟩ = some (.int .i64 ((ts0.length : Int) + 1)) := HI0.out.bx.at_ 1
      have c2 : WD.cell? ⟨fb, 2, none⟩ = some (.string ⟨#[]⟩) := HI0.out.bx.at_ 2
      clear gb
      have HI := Veil.mk hI
      clear hI
      rw [ha]
      simp only [puts, setAll, List.setIfInBounds_toArray, List.set_cons_zero, List.set_cons_succ]
      go_simp
      exact hK _ _ (chain_step HI.out hus hbs 4 _ (by show 4 < 8; decide) rfl hbp (val_of rfl rfl) (HI.out.ph.step 4 _ (by decide) (by decide)) (by simp only [puts, setAll, List.set_cons_zero, List.set_cons_succ, List.setIfInBounds_toArray]))
    refine Steps.cons rfl (fun bb aa w' hbs hb0 hbp hI K hK => ?_) ?_
    · obtain ⟨us, hus, ha, hI⟩ := hI
      obtain ⟨u0, u1, u2, u3, u4, u5, u6, u7, rfl⟩ := lenA8 hus
      have e3 : u3 = .pointer (some ⟨h, 0, none⟩) := hI.val 3 _ rfl (gen_after 3 (by kernel_rfl) hbp)
      subst e3
      have e4 : u4 = valV (9, (ts0.length : Int) + 1, ⟨#[]⟩) := hI.val 4 _ rfl (gen_after 4 (by kernel_rfl) hbp)
      subst e4
      have gb := hb0
      have hst := hI.ph.btw1 0 (.inl rfl) (.inr ⟨5, rfl, gb⟩)
      have hst' : WD = w' := (show w' = WD from hst).symm
      clear hst
      subst hst'
      have HOFX : Veil (Calls Tryz.prog 21 #[.pointer (some ⟨h, 0, none⟩), valV (9, (ts0.length : Int) + 1, ⟨#[]⟩)] WD fun e w' => e = .returned (.pointer (some ⟨b, 0, none⟩)) ∧ Below WD.heap.size WD w') := ⟨HI0.out.mp.mm.of_ ts0.length (TO.os ⟨b, 2, prF 21 1, pv, .slice none 0 0, fnv, 9, F, O⟩) (by rw [List.map_append]; simp) ⟨#[]⟩⟩
      clear gb
      have HI := Veil.mk hI
      clear hI
      rw [ha]
      simp only [puts, setAll, List.setIfInBounds_toArray, List.set_cons_zero, List.set_cons_succ]
      go_simp
      go_at_call 21
      refine HOFX.out.mono ?_
      rintro e9 w9 ⟨rfl, hb9⟩
      go_simp
      exact hK _ _ (chain_step HI.out hus hbs 5 _ (by show 5 < 8; decide) rfl hbp (val_of rfl rfl) (HI.out.ph.next 0 5 _ rfl hb0 (.inl rfl) (by decide) (hb9)) (by simp only [puts, setAll, List.set_cons_zero, List.set_cons_succ, List.setIfInBounds_toArray]))
    refine Steps.cons rfl (fun bb aa w' hbs hb0 hbp hI K hK => ?_) ?_
    · obtain ⟨us, hus, ha, hI⟩ := hI
      obtain ⟨u0, u1, u2, u3, u4, u5, u6, u7, rfl⟩ := lenA8 hus
      have ga := (gen_after 5 (by kernel_rfl) hbp)
      have gb := hb0
      have hst := hI.ph.btw1 1 (.inr ⟨5, rfl, ga⟩) (.inr ⟨6, rfl, gb⟩)
      have HST := Veil.mk (show Below WD.heap.size WD w' from hst)
      clear hst
      have HGA := Veil.mk ga
      clear ga gb
      have HI := Veil.mk hI
      clear hI
      rw [ha]
      simp only [puts, setAll, List.setIfInBounds_toArray, List.set_cons_zero, List.set_cons_succ]
      go_simp
      go_at_call 23
      refine (val_name _).mono ?_
      rintro e9 w9 ⟨rfl, hb9⟩
      go_simp
      exact hK _ _ (chain_step HI.out hus hbs 6 _ (by show 6 < 8; decide) rfl hbp (val_of rfl rfl) (HI.out.ph.next 1 6 _ rfl hb0 (.inr ⟨5, rfl, HGA.out⟩) (by decide) ((show Below _ _ _ from HST.out.trans (hb9.mono HST.out.size)))) (by simp only [puts, setAll, List.set_cons_zero, List.set_cons_succ, List.setIfInBounds_toArray]))
    refine Steps.cons rfl (fun bb aa w' hbs hb0 hbp hI K hK => ?_) ?_
    · obtain ⟨us, hus, ha, hI⟩ := hI
      obtain ⟨u0, u1, u2, u3, u4, u5, u6, u7, rfl⟩ := lenA8 hus
      have e5 : u5 = .pointer (some ⟨b, 0, none⟩) := hI.val 5 _ rfl (gen_after 5 (by kernel_rfl) hbp)
      subst e5
      have e6 : u6 = valV kName := hI.val 6 _ rfl (gen_after 6 (by kernel_rfl) hbp)
      subst e6
      have ga := (gen_after 6 (by kernel_rfl) hbp)
      have gb := hb0
      have hst := hI.ph.btw1 2 (.inr ⟨6, rfl, ga⟩) (.inr ⟨7, rfl, gb⟩)
      have HST := Veil.mk (show Below WD.heap.size WD w' from hst)
      clear hst
      have HDL := Veil.mk ((HI0.out.mp.on HST.out).delete (t := ⟨b, 2, prF 21 1, pv, .slice none 0 0, fnv, 9, F, O⟩) (ts2 := []) rfl (show O.length < 40000 by have := HOL.out; omega) kName (keyT_str _ _) (by decide) x fl HFL.out HLK.out)
      have HGA := Veil.mk ga
      clear ga gb
      have HI := Veil.mk hI
      clear hI
      rw [ha]
      simp only [puts, setAll, List.setIfInBounds_toArray, List.set_cons_zero, List.set_cons_succ]
      go_simp
      go_at_call 22
      refine HDL.out.mono ?_
      rintro e9 w9 ⟨rfl, F9, hm9, hk9⟩
      go_simp
      exact hK _ _ (chain_step HI.out hus hbs 7 (.bool true) (by show 7 < 8; decide) rfl hbp (none_of rfl) (HI.out.ph.next 2 7 _ rfl hb0 (.inr ⟨6, rfl, HGA.out⟩) (by decide) (⟨F9, hm9, (Bk.of_below (Nat.le_of_lt HI0.out.mp.mm.alt) HST.out).trans hk9⟩)) (by simp only [puts, setAll, List.set_cons_zero, List.set_cons_succ, List.setIfInBounds_toArray]))
    exact Steps.nil
  · intro us wE hus dd hD2 hJ
    obtain ⟨p0, p1, p2, p3, p4, p5, p6, p7, rfl⟩ := lenA8 hus
    have q1 := hJ.ph.all (fun c hc => hD2 c (by
      have : c = 5 ∨ c = 6 ∨ c = 7 := by simpa using hc
      show c < 8
      omega))
    have e0 : p0 = .pointer (some ⟨m, 0, none⟩) := hJ.val 0 _ rfl (hD2 0 (by show 0 < 8; decide))
    subst e0
    have e1 : p1 = .pointer (some ⟨m, 0, none⟩) := hJ.val 1 _ rfl (hD2 1 (by show 1 < 8; decide))
    subst e1
    have e2 : p2 = .pointer (some ⟨m, 0, none⟩) := hJ.val 2 _ rfl (hD2 2 (by show 2 < 8; decide))
    subst e2
    have e3 : p3 = .pointer (some ⟨h, 0, none⟩) := hJ.val 3 _ rfl (hD2 3 (by show 3 < 8; decide))
    subst e3
    have e4 : p4 = valV (9, (ts0.length : Int) + 1, ⟨#[]⟩) := hJ.val 4 _ rfl (hD2 4 (by show 4 < 8; decide))
    subst e4
    have e5 : p5 = .pointer (some ⟨b, 0, none⟩) := hJ.val 5 _ rfl (hD2 5 (by show 5 < 8; decide))
    subst e5
    have e6 : p6 = valV kName := hJ.val 6 _ rfl (hD2 6 (by show 6 < 8; decide))
    subst e6
    clear hJ hD2
    obtain ⟨F2, hm, hk⟩ := q1
    have HI2 : Veil (FI wE h A m fb b ts0 fnv pv F2 (dropK kName O) ∧ Bk A WD wE) := ⟨⟨hm, hk.box HI0.out.bx⟩, hk⟩
    clear hm hk
    simp only [puts, setAll, List.setIfInBounds_toArray, List.set_cons_zero, List.set_cons_succ]
    obtain ⟨O2, hO2⟩ : ∃ O2, dropK kName O = O2 := ⟨_, rfl⟩
    have hO2e : O2 = [(kLen, (3, 0, ⟨#[]⟩), 4)] := by rw [← hO2, HO.out]; kernel_rfl
    rw [hO2] at HI2
    have HO2 := Veil.mk hO2e
    have HBE := Veil.mk (HBD.out.trans HI2.out.2.bel)
    have HSH := Veil.mk (HI2.out.1.shows (0, 0, ⟨#[]⟩) 0 false (by rw [HO2.out]; kernel_rfl) rfl ⟨#[117, 110, 100, 101, 102, 105, 110, 101, 100]⟩ (by decide) leaf_u)
    have x0 : wE.cell? ⟨fb, 0, none⟩ = some (.int .i64 9) := HI2.out.1.bx.at_ 0
    have x1 : wE.cell? ⟨fb, 1, none⟩ = some (.int .i64 ((ts0.length : Int) + 1)) := HI2.out.1.bx.at_ 1
    have x2 : wE.cell? ⟨fb, 2, none⟩ = some (.string ⟨#[]⟩) := HI2.out.1.bx.at_ 2
    have hcmp : (((⟨#[102, 117, 110, 99, 116, 105, 111, 110, 32]⟩ : ByteArray) ++ ⟨#[117, 110, 100, 101, 102, 105, 110, 101, 100]⟩).toList == [102, 117, 110, 99, 116, 105, 111, 110, 32, 117, 110, 100, 101, 102, 105, 110, 101, 100]) = true := by decide +kernel
    clear hO2 hO2e HO HLK HFL HOL HI0 HWD HBD
    go_upto_region 13 with (go_at_call 11; ((with_reducible refine HSH.out.mono ?_); rintro e w8 ⟨rfl, hb8⟩; have HI8 := Veil.mk (HI2.out.1.on hb8); have HB8 := Veil.mk (HBE.out.trans (hb8.mono (Nat.le_of_lt HI2.out.1.mp.mm.alt))); clear hb8))
    obtain ⟨WD, hWD⟩ : ∃ WD, w8.drew = WD := ⟨_, rfl⟩
    have HI0 : Veil (FI WD h A m fb b ts0 fnv pv F2 O2) := ⟨by rw [← hWD]; exact HI8.out.on (Below.refl _ _).drew⟩
    have HBD : Veil (Below A w2 WD) := ⟨by rw [← hWD]; exact HB8.out.drew⟩
    have HOL : Veil (O2.length < 100) := ⟨by rw [HO2.out]; show 1 < 100; omega⟩
    have HAL : Veil ((O2.all fun x => decide (x.1 ≠ kName)) = true) := ⟨by rw [HO2.out]; show (decide (kLen ≠ kName) && true) = true; decide +kernel⟩
    have HWD := Veil.mk hWD
    clear hWD HSH x0 x1 x2 HI2 HBE HI8 HB8 hcmp
    refine wp_region_chain (some (· = .pointer (some ⟨m, 0, none⟩)) :: some (· = .pointer (some ⟨m, 0, none⟩)) :: some (· = .pointer (some ⟨m, 0, none⟩)) :: some (· = .pointer (some ⟨m, 0, none⟩)) :: some (· = .pointer (some ⟨h, 0, none⟩)) :: some (· = valV (9, (ts0.length : Int) + 1, ⟨#[]⟩)) :: some (· = .pointer (some ⟨b, 0, none⟩)) :: some (· = .agg #[.int .i64 3, .int .i64 7, .string ⟨#[]⟩]) :: none :: [] : List (Option (Value → Prop))) (LPh [6, 8] (fun j _ w => match j with | 0 => w = WD | 1 => Below WD.heap.size WD w | _ => ∃ pv' F', MP w h A m (prF 21) (ts0 ++ [⟨b, 2, prF 21 1, pv', .slice none 0 0, fnv, 9, F', O2 ++ [(kName, (3, 7, ⟨#[]⟩), 7)]⟩]) ∧ Bk A WD w)) [some 39, some 40, some 41, some 42, some 43, some 44, some 45, some 46, some 47] (curV' _ [some 39, some 40, some 41, some 42, some 43, some 44, some 45, some 46, some 47]) (by kernel_rfl) rfl rfl (puts_cur _ _) (LPh.start (show _ = WD from HWD.out)) ?_ (by kernel_rfl) ?_
    · refine Steps.cons rfl (fun bb aa w' hbs hb0 hbp hI K hK => ?_) ?_
      · obtain ⟨us, hus, ha, hI⟩ := hI
        obtain ⟨u0, u1, u2, u3, u4, u5, u6, u7, u8, rfl⟩ := lenA9 hus
        have HI := Veil.mk hI
        clear hI
        rw [ha]
        simp only [puts, setAll, List.setIfInBounds_toArray, List.set_cons_zero, List.set_cons_succ]
        go_simp
        exact hK _ _ (chain_step HI.out hus hbs 0 _ (by show 0 < 9; decide) rfl hbp (val_of rfl rfl) (HI.out.ph.step 0 _ (by decide) (by decide)) (by simp only [puts, setAll, List.set_cons_zero, List.set_cons_succ, List.setIfInBounds_toArray]))
      refine Steps.cons rfl (fun bb aa w' hbs hb0 hbp hI K hK => ?_) ?_
      · obtain ⟨us, hus, ha, hI⟩ := hI
        obtain ⟨u0, u1, u2, u3, u4, u5, u6, u7, u8, rfl⟩ := lenA9 hus
        have HI := Veil.mk hI
        clear hI
        rw [ha]
        simp only [puts, setAll, List.setIfInBounds_toArray, List.set_cons_zero, List.set_cons_succ]
        go_simp
        exact hK _ _ (chain_step HI.out hus hbs 1 _ (by show 1 < 9; decide) rfl hbp (val_of rfl rfl) (HI.out.ph.step 1 _ (by decide) (by decide)) (by simp only [puts, setAll, List.set_cons_zero, List.set_cons_succ, List.setIfInBounds_toArray]))
      refine Steps.cons rfl (fun bb aa w' hbs hb0 hbp hI K hK => ?_) ?_
      · obtain ⟨us, hus, ha, hI⟩ := hI
        obtain ⟨u0, u1, u2, u3, u4, u5, u6, u7, u8, rfl⟩ := lenA9 hus
        have e1 : u1 = .pointer (some ⟨m, 0, none⟩) := hI.val 1 _ rfl (gen_after 1 (by kernel_rfl) hbp)
        subst e1
        have HI := Veil.mk hI
        clear hI
        rw [ha]
        simp only [puts, setAll, List.setIfInBounds_toArray, List.set_cons_zero, List.set_cons_succ]
        go_simp
        exact hK _ _ (chain_step HI.out hus hbs 2 _ (by show 2 < 9; decide) rfl hbp (val_of rfl rfl) (HI.out.ph.step 2 _ (by decide) (by decide)) (by simp only [puts, setAll, List.set_cons_zero, List.set_cons_succ, List.setIfInBounds_toArray]))
      refine Steps.cons rfl (fun bb aa w' hbs hb0 hbp hI K hK => ?_) ?_
      · obtain ⟨us, hus, ha, hI⟩ := hI
        obtain ⟨u0, u1, u2, u3, u4, u5, u6, u7, u8, rfl⟩ := lenA9 hus
        have e2 : u2 = .pointer (some ⟨m, 0, none⟩) := hI.val 2 _ rfl (gen_after 2 (by kernel_rfl) hbp)
        subst e2
        have HI := Veil.mk hI
        clear hI
        rw [ha]
        simp only [puts, setAll, List.setIfInBounds_toArray, List.set_cons_zero, List.set_cons_succ]
        go_simp
        exact hK _ _ (chain_step HI.out hus hbs 3 _ (by show 3 < 9; decide) rfl hbp (val_of rfl rfl) (HI.out.ph.step 3 _ (by decide) (by decide)) (by simp only [puts, setAll, List.set_cons_zero, List.set_cons_succ, List.setIfInBounds_toArray]))
      refine Steps.cons rfl (fun bb aa w' hbs hb0 hbp hI K hK => ?_) ?_
      · obtain ⟨us, hus, ha, hI⟩ := hI
        obtain ⟨u0, u1, u2, u3, u4, u5, u6, u7, u8, rfl⟩ := lenA9 hus
        have e3 : u3 = .pointer (some ⟨m, 0, none⟩) := hI.val 3 _ rfl (gen_after 3 (by kernel_rfl) hbp)
        subst e3
        have gb := (hI.bwd [4] 6 4 (by kernel_rfl) rfl hb0)
        have hst := hI.ph.btw1 0 (.inl rfl) (.inr ⟨6, rfl, gb⟩)
        have hst' : WD = w' := (show w' = WD from hst).symm
        clear hst
        subst hst'
        have c0 := HI0.out.mp.mm.cell0
        clear gb
        have HI := Veil.mk hI
        clear hI
        rw [ha]
        simp only [puts, setAll, List.setIfInBounds_toArray, List.set_cons_zero, List.set_cons_succ]
        go_simp
        exact hK _ _ (chain_step HI.out hus hbs 4 _ (by show 4 < 9; decide) rfl hbp (val_of rfl rfl) (HI.out.ph.step 4 _ (by decide) (by decide)) (by simp only [puts, setAll, List.set_cons_zero, List.set_cons_succ, List.setIfInBounds_toArray]))
      refine Steps.cons rfl (fun bb aa w' hbs hb0 hbp hI K hK => ?_) ?_
      · obtain ⟨us, hus, ha, hI⟩ := hI
        obtain ⟨u0, u1, u2, u3, u4, u5, u6, u7, u8, rfl⟩ := lenA9 hus
        have gb := (hI.bwd [5] 6 5 (by kernel_rfl) rfl hb0)
        have hst := hI.ph.btw1 0 (.inl rfl) (.inr ⟨6, rfl, gb⟩)
        have hst' : WD = w' := (show w' = WD from hst).symm
        clear hst
        subst hst'
        have c0 : WD.cell? ⟨fb, 0, none⟩ = some (.int .i64 9) := HI0.out.bx.at_ 0
        have c1 : WD.cell? ⟨fb, 1, none⟩ = some (.int .i64 ((ts0.length : Int) + 1)) := HI0.out.bx.at_ 1
        have c2 : WD.cell? ⟨fb, 2, none⟩ = some (.string ⟨#[]⟩) := HI0.out.bx.at_ 2
        clear gb
        have HI := Veil.mk hI
        clear hI
        rw [ha]
        simp only [puts, setAll, List.setIfInBounds_toArray, List.set_cons_zero, List.set_cons_succ]
        go_simp
        exact hK _ _ (chain_step HI.out hus hbs 5 _ (by show 5 < 9; decide) rfl hbp (val_of rfl rfl) (HI.out.ph.step 5 _ (by decide) (by decide)) (by simp only [puts, setAll, List.set_cons_zero, List.set_cons_succ, List.setIfInBounds_toArray]))
      refine Steps.cons rfl (fun bb aa w' hbs hb0 hbp hI K hK => ?_) ?_
      · obtain ⟨us, hus, ha, hI⟩ := hI
        obtain ⟨u0, u1, u2, u3, u4, u5, u6, u7, u8, rfl⟩ := lenA9 hus
        have e4 : u4 = .pointer (some ⟨h, 0, none⟩) := hI.val 4 _ rfl (gen_after 4 (by kernel_rfl) hbp)
        subst e4
        have e5 : u5 = valV (9, (ts0.length : Int) + 1, ⟨#[]⟩) := hI.val 5 _ rfl (gen_after 5 (by kernel_rfl) hbp)
        subst e5
        have gb := hb0
        have hst := hI.ph.btw1 0 (.inl rfl) (.inr ⟨6, rfl, gb⟩)
        have hst' : WD = w' := (show w' = WD from hst).symm
        clear hst
        subst hst'
        have HOFX : Veil (Calls Tryz.prog 21 #[.pointer (some ⟨h, 0, none⟩), valV (9, (ts0.length : Int) + 1, ⟨#[]⟩)] WD fun e w' => e = .returned (.pointer (some ⟨b, 0, none⟩)) ∧ Below WD.heap.size WD w') := ⟨HI0.out.mp.mm.of_ ts0.length (TO.os ⟨b, 2, prF 21 1, pv, .slice none 0 0, fnv, 9, F2, O2⟩) (by rw [List.map_append]; simp) ⟨#[]⟩⟩
        clear gb
        have HI := Veil.mk hI
        clear hI
        rw [ha]
        simp only [puts, setAll, List.setIfInBounds_toArray, List.set_cons_zero, List.set_cons_succ]
        go_simp
        go_at_call 21
        refine HOFX.out.mono ?_
        rintro e9 w9 ⟨rfl, hb9⟩
        go_simp
        exact hK _ _ (chain_step HI.out hus hbs 6 _ (by show 6 < 9; decide) rfl hbp (val_of rfl rfl) (HI.out.ph.next 0 6 _ rfl hb0 (.inl rfl) (by decide) (hb9)) (by simp only [puts, setAll, List.set_cons_zero, List.set_cons_succ, List.setIfInBounds_toArray]))
      refine Steps.cons rfl (fun bb aa w' hbs hb0 hbp hI K hK => ?_) ?_
      · obtain ⟨us, hus, ha, hI⟩ := hI
        obtain ⟨u0, u1, u2, u3, u4, u5, u6, u7, u8, rfl⟩ := lenA9 hus
        have HI := Veil.mk hI
        clear hI
        rw [ha]
        simp only [puts, setAll, List.setIfInBounds_toArray, List.set_cons_zero, List.set_cons_succ]
        go_simp
        exact hK _ _ (chain_step HI.out hus hbs 7 _ (by show 7 < 9; decide) rfl hbp (val_of rfl rfl) (HI.out.ph.step 7 _ (by decide) (by decide)) (by simp only [puts, setAll, List.set_cons_zero, List.set_cons_succ, List.setIfInBounds_toArray]))
      refine Steps.cons rfl (fun bb aa w' hbs hb0 hbp hI K hK => ?_) ?_
      · obtain ⟨us, hus, ha, hI⟩ := hI
        obtain ⟨u0, u1, u2, u3, u4, u5, u6, u7, u8, rfl⟩ := lenA9 hus
        have e0 : u0 = .pointer (some ⟨m, 0, none⟩) := hI.val 0 _ rfl (gen_after 0 (by kernel_rfl) hbp)
        subst e0
        have e6 : u6 = .pointer (some ⟨b, 0, none⟩) := hI.val 6 _ rfl (gen_after 6 (by kernel_rfl) hbp)
        subst e6
        have e7 : u7 = .agg #[.int .i64 3, .int .i64 7, .string ⟨#[]⟩] := hI.val 7 _ rfl (gen_after 7 (by kernel_rfl) hbp)
        subst e7
        have ga := (gen_after 6 (by kernel_rfl) hbp)
        have gb := hb0
        have hst := hI.ph.btw1 1 (.inr ⟨6, rfl, ga⟩) (.inr ⟨8, rfl, gb⟩)
        have HST := Veil.mk (show Below WD.heap.size WD w' from hst)
        clear hst
        have HON : Veil (Calls Tryz.prog 14 #[.pointer (some ⟨m, 0, none⟩), .pointer (some ⟨b, 0, none⟩), .string ⟨#[110, 97, 109, 101]⟩, valV (3, 7, ⟨#[]⟩), .int .i64 7] w' fun e w9 => e = .returned (.tuple #[]) ∧ ∃ pv' F', MP w9 h A m (prF 21) (ts0 ++ [⟨b, 2, prF 21 1, pv', .slice none 0 0, fnv, 9, F', O2 ++ [(kName, (3, 7, ⟨#[]⟩), 7)]⟩]) ∧ Bk A w' w9) := ⟨(HI0.out.mp.on HST.out).own (t := ⟨b, 2, prF 21 1, pv, .slice none 0 0, fnv, 9, F2, O2⟩) (ts2 := []) rfl (show O2.length < 40000 by have := HOL.out; omega) _ ⟨#[110, 97, 109, 101]⟩ [0, 110, 0, 97, 0, 109, 0, 101] 7 (3, 7, ⟨#[]⟩) (by decide) (by decide +kernel) (by decide) HAL.out⟩
        have HGA := Veil.mk ga
        clear ga gb
        have HI := Veil.mk hI
        clear hI
        rw [ha]
        simp only [puts, setAll, List.setIfInBounds_toArray, List.set_cons_zero, List.set_cons_succ]
        go_simp
        go_at_call 14
        refine HON.out.mono ?_
        rintro e9 w9 ⟨rfl, pv9, F9, hm9, hk9⟩
        go_simp
        exact hK _ _ (chain_step HI.out hus hbs 8 (.tuple #[]) (by show 8 < 9; decide) rfl hbp (none_of rfl) (HI.out.ph.next 1 8 _ rfl hb0 (.inr ⟨6, rfl, HGA.out⟩) (by decide) (⟨pv9, F9, hm9, (Bk.of_below (Nat.le_of_lt HI0.out.mp.mm.alt) HST.out).trans hk9⟩)) (by simp only [puts, setAll, List.set_cons_zero, List.set_cons_succ, List.setIfInBounds_toArray]))
      exact Steps.nil
    · intro us wE hus dd hD2 hJ
      obtain ⟨p0, p1, p2, p3, p4, p5, p6, p7, p8, rfl⟩ := lenA9 hus
      have q1 := hJ.ph.all (fun c hc => hD2 c (by
        have : c = 6 ∨ c = 8 := by simpa using hc
        show c < 9
        omega))
      have e0 : p0 = .pointer (some ⟨m, 0, none⟩) := hJ.val 0 _ rfl (hD2 0 (by show 0 < 9; decide))
      subst e0
      have e1 : p1 = .pointer (some ⟨m, 0, none⟩) := hJ.val 1 _ rfl (hD2 1 (by show 1 < 9; decide))
      subst e1
      have e2 : p2 = .pointer (some ⟨m, 0, none⟩) := hJ.val 2 _ rfl (hD2 2 (by show 2 < 9; decide))
      subst e2
      have e3 : p3 = .pointer (some ⟨m, 0, none⟩) := hJ.val 3 _ rfl (hD2 3 (by show 3 < 9; decide))
      subst e3
      have e4 : p4 = .pointer (some ⟨h, 0, none⟩) := hJ.val 4 _ rfl (hD2 4 (by show 4 < 9; decide))
      subst e4
      have e5 : p5 = valV (9, (ts0.length : Int) + 1, ⟨#[]⟩) := hJ.val 5 _ rfl (hD2 5 (by show 5 < 9; decide))
      subst e5
      have e6 : p6 = .pointer (some ⟨b, 0, none⟩) := hJ.val 6 _ rfl (hD2 6 (by show 6 < 9; decide))
      subst e6
      have e7 : p7 = .agg #[.int .i64 3, .int .i64 7, .string ⟨#[]⟩] := hJ.val 7 _ rfl (hD2 7 (by show 7 < 9; decide))
      subst e7
      clear hJ hD2
      obtain ⟨pv', F', hm, hk⟩ := q1
      have HI2 : Veil (FI wE h A m fb b ts0 fnv pv' F' (O2 ++ [(kName, (3, 7, ⟨#[]⟩), 7)]) ∧ Bk A WD wE) := ⟨⟨hm, hk.box HI0.out.bx⟩, hk⟩
      clear hm hk
      simp only [puts, setAll, List.setIfInBounds_toArray, List.set_cons_zero, List.set_cons_succ]
      obtain ⟨F3, hF3⟩ : ∃ F3, F' = F3 := ⟨_, rfl⟩
      have HBE := Veil.mk (HBD.out.trans HI2.out.2.bel)
      have HLK3 : Veil (lookO (O2 ++ [(kName, (3, 7, ⟨#[]⟩), 7)]) kName = ((3, 7, ⟨#[]⟩), 7, true)) := ⟨by rw [HO2.out]; kernel_rfl⟩
      have HSH := Veil.mk (HI2.out.1.shows (3, 7, ⟨#[]⟩) 7 true HLK3.out rfl ⟨#[55]⟩ (by decide) leaf_7)
      have x0 : wE.cell? ⟨fb, 0, none⟩ = some (.int .i64 9) := HI2.out.1.bx.at_ 0
      have x1 : wE.cell? ⟨fb, 1, none⟩ = some (.int .i64 ((ts0.length : Int) + 1)) := HI2.out.1.bx.at_ 1
      have x2 : wE.cell? ⟨fb, 2, none⟩ = some (.string ⟨#[]⟩) := HI2.out.1.bx.at_ 2
      have hcmp : (((⟨#[102, 117, 110, 99, 116, 105, 111, 110, 32]⟩ : ByteArray) ++ ⟨#[55]⟩).toList == [102, 117, 110, 99, 116, 105, 111, 110, 32, 55]) = true := by decide +kernel
      clear hF3 HOL HAL HI0 HWD HBD
      go_wp2_with (first | (go_at_call 11; ((with_reducible refine HSH.out.mono ?_); rintro e w9 ⟨rfl, hb9⟩; have HI9 := Veil.mk (HI2.out.1.on hb9); have HB9 := Veil.mk (HBE.out.trans (hb9.mono (Nat.le_of_lt HI2.out.1.mp.mm.alt))); have y0 : w9.cell? ⟨fb, 0, none⟩ = some (.int .i64 9) := HI9.out.bx.at_ 0; have y1 : w9.cell? ⟨fb, 1, none⟩ = some (.int .i64 ((ts0.length : Int) + 1)) := HI9.out.bx.at_ 1; have y2 : w9.cell? ⟨fb, 2, none⟩ = some (.string ⟨#[]⟩) := HI9.out.bx.at_ 2; have HARR := Veil.mk (two_shown HI9.out HLK3.out (by have := HL0.out; omega)); clear hb9)) | (go_at_call 24; ((with_reducible refine HARR.out.mono ?_); rintro e wA ⟨rfl, hbA, hsA⟩; have HSA := Veil.mk (hsA _ rfl); have HBA := Veil.mk (HB9.out.trans hbA); clear hbA hsA)) | (go_at_call 11; ((with_reducible refine HSA.out.mono ?_); rintro e wB ⟨rfl, hbB⟩)))
      go_ret
      have hA9 : A ≤ wA.heap.size := Nat.le_trans HA.out.1 HBA.out.size
      have h02 := HB1.out.trans (HP2.out.bel.mono HB1.out.size)
      exact ⟨rfl, h02.trans ((HBA.out.trans (hbB.mono hA9)).mono HA.out.2)⟩
end Go.Proofs.YtgdkjkfbknbgkaaGreatDoor
