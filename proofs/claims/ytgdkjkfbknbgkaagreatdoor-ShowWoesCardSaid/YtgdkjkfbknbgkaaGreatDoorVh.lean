/- ShowDeep: the example. -/
import Derived.Test.YtgdkjkfbknbgkaaGreatDoorVg
namespace Go.Proofs.YtgdkjkfbknbgkaaGreatDoor
open Go Go.RowKit

theorem one_row (W : World) (v : Vt) : RowV (W.alloc (.cells #[.int .i64 v.1, .int .i64 v.2.1, .string v.2.2] 30)) (.slice (some ⟨W.heap.size, 0, none⟩) 1 1) [v] := RowV.box [v] 1 rfl (Box.new W 30 _)
theorem three_row (W : World) (a b c : Vt) : RowV (W.alloc (.cells #[.int .i64 a.1, .int .i64 a.2.1, .string a.2.2, .int .i64 b.1, .int .i64 b.2.1, .string b.2.2, .int .i64 c.1, .int .i64 c.2.1, .string c.2.2] 30)) (.slice (some ⟨W.heap.size, 0, none⟩) 3 3) [a, b, c] := RowV.box [a, b, c] 3 rfl (Box.new W 30 _)
theorem val_a (w : World) : Calls Tryz.prog 23 #[.string ⟨#[97]⟩] w fun e w' => e = .returned (valV (7, 0, ⟨#[0, 97]⟩)) ∧ Below w.heap.size w w' :=
  W.val_const _ [0, 97] (by decide) (show Hid _ from (by decide +kernel : W.ofB ⟨#[97]⟩ = [0, 97])) w
theorem kp3 {i : Nat} {P : Nat → Prop} (hi : i < 3) (h0 : P 0) (h1 : P 1) (h2 : P 2) : P i := by
  match i, hi with
  | 0, _ => exact h0
  | 1, _ => exact h1
  | 2, _ => exact h2
theorem shown_leaf {W : World} {m h k : Nat} {v : Vt} {s : ByteArray} (H : ∀ (mv av : Value) (w : World), Calls Tryz.prog 28 #[mv, valV v, av] w fun e w' => e = .returned (.string s) ∧ Below w.heap.size w w') : Shown W m h k v s := by
  cases k with
  | zero => exact .inl fun W' a _ => H _ _ W'
  | succ k => exact .inl fun W' a _ => H _ _ W'
theorem shown_arr1 {W : World} {m h k : Nat} {v x : Vt} {s r : ByteArray} (ha : ArrAt W h v [x]) (hx : Shown W m h k x s) (hsz : s.size ≤ 1000) (hr : r = arrS [s]) : Shown W m h (k + 1) v r := by
  refine .inr ⟨[x], [s], ha, rfl, ?_, fun i y p h1 h2 => ?_, hr⟩
  · show (Lib.join [s.data.toList] [44, 32]).length ≤ _
    rw [Lib.join_one]
    have : s.data.toList.length = s.size := by simp
    omega
  · match i, h1, h2 with
    | 0, h1, h2 => cases h1; cases h2; exact hx
theorem shown_arr3 {W : World} {m h k : Nat} {v x y z : Vt} {s t u r : ByteArray} (ha : ArrAt W h v [x, y, z]) (hx : Shown W m h k x s) (hy : Shown W m h k y t) (hz : Shown W m h k z u) (hsz : (Lib.join [s.data.toList, t.data.toList, u.data.toList] [44, 32]).length ≤ 1000) (hr : r = arrS [s, t, u]) : Shown W m h (k + 1) v r := by
  refine .inr ⟨[x, y, z], [s, t, u], ha, rfl, ?_, fun i a p h1 h2 => ?_, hr⟩
  · show (Lib.join [s.data.toList, t.data.toList, u.data.toList] [44, 32]).length ≤ _
    omega
  · match i, h1, h2 with
    | 0, h1, h2 => cases h1; cases h2; exact hx
    | 1, h1, h2 => cases h1; cases h2; exact hy
    | 2, h1, h2 => cases h1; cases h2; exact hz
theorem MM.cell0 {W : World} {h A m : Nat} {f : Nat → Int} {os : List OS} (H : MM W h A m f os) : W.cell? ⟨m, 0, none⟩ = some (.pointer (some ⟨h, 0, none⟩)) := H.mb.at_ 0
theorem MM.last {W : World} {h A m : Nat} {f : Nat → Int} {os : List OS} {b : Nat} {ev : Value} {p : Int} {l : List Vt} (H : MM W h A m f (os ++ [(b, objC 1 p false (.pointer none) ev)])) (hr : RowV W ev l) (hl : l.length ≤ 1000000) : ArrAt W h (9, (os.length : Int) + 1, ⟨#[]⟩) l :=
  H.arrAt os.length b (objC 1 p false (.pointer none) ev) (by simp) rfl ev rfl l hr hl _
set_option maxHeartbeats 4000000 in
set_option maxRecDepth 100000 in
theorem fit_any (w : World) : Calls Tryz.prog 7 #[] w fun e w' => e = .returned (.bool true) ∧ Below w.heap.size w w' := by
  have HM := Veil.mk (machine_any w)
  go_enter Tryz.func7, Tryz.ntmps7
  go_upto_region 2 with (go_at_call 9; ((with_reducible refine HM.out.mono ?_); rintro e w1 ⟨h, A, m, os, rfl, hp⟩))
  have HP := Veil.mk hp
  clear hp HM
  obtain ⟨W1, hW1⟩ : ∃ W1, w1.alloc (.cells #[.int .i64 3, .int .i64 2, .string ⟨#[]⟩] 30) = W1 := ⟨_, rfl⟩
  have hr1 := one_row w1 (3, 2, ⟨#[]⟩)
  have hb1 : Below w1.heap.size w1 (w1.alloc (.cells #[.int .i64 3, .int .i64 2, .string ⟨#[]⟩] 30)) := (Below.refl _ _).alloc (Nat.le_refl _) _
  have HA1 := Veil.mk ((HP.out.mm.on hb1).array _ [(3, 2, ⟨#[]⟩)] hr1 (by decide) (by rw [HP.out.len]; decide))
  have HB1 := Veil.mk hb1
  clear hb1 hr1 hW1
  go_upto_region 5 with (first | (go_at_call 24; ((with_reducible refine HA1.out.mono ?_); rintro e w2 ⟨rfl, b1, ev1, -, hm2, hr2, hb2, hk2, -, -⟩; have H2 := Veil.mk (And.intro hm2 (And.intro hr2 (And.intro hb2 hk2))); clear hm2 hr2 hb2 hk2)) | (go_at_call 23; ((with_reducible refine (val_a _).mono ?_); rintro e w3 ⟨rfl, hb3⟩; go_loud (have HB3 := Veil.mk hb3; have HA2 := Veil.mk (((H2.out.1.on hb3).on ((Below.refl _ _).alloc (Nat.le_refl _) _)).array _ [(3, 1, ⟨#[]⟩), (9, (os.length : Int) + 1, ⟨#[]⟩), (7, 0, ⟨#[0, 97]⟩)] (three_row w3 (3, 1, ⟨#[]⟩) (9, (os.length : Int) + 1, ⟨#[]⟩) (7, 0, ⟨#[0, 97]⟩)) (by show 3 ≤ 10000; omega) (by rw [List.length_append, HP.out.len]; show 22 < 1000000; omega)); clear hb3))) | (go_at_call 24; ((with_reducible refine HA2.out.mono ?_); rintro e w4 ⟨rfl, b2, ev2, -, hm4, hr4, hb4, hk4, -, -⟩; have H4 := Veil.mk (And.intro hm4 (And.intro hr4 (And.intro hb4 hk4))); clear hm4 hr4 hb4 hk4)))
  have H5 : Veil (∀ W, Below w4.heap.size w4 W → Shown W m h 3 (9, ((os ++ [(b1, objC 1 (prF 21 2) false (.pointer none) ev1)]).length : Int) + 1, ⟨#[]⟩) ⟨#[91, 49, 44, 32, 91, 50, 93, 44, 32, 97, 93]⟩) := ⟨fun W hb => by
    have hm := H4.out.1.on hb
    have h1 : RowV w4 ev1 [(3, 2, ⟨#[]⟩)] := ((H2.out.2.1.on HB3.out).on ((Below.refl _ _).alloc (Nat.le_refl _) _)).kp H4.out.2.2.2 rfl
    have a1 : ArrAt W h (9, (os.length : Int) + 1, ⟨#[]⟩) [(3, 2, ⟨#[]⟩)] := hm.arrAt os.length b1 (objC 1 (prF 21 2) false (.pointer none) ev1) (by simp) rfl ev1 rfl _ (h1.on hb) (by show 1 ≤ 1000000; omega) _
    have a2 := hm.last (H4.out.2.1.on hb) (by show 3 ≤ 1000000; omega)
    exact shown_arr3 a2 (shown_leaf (s := ⟨#[49]⟩) leaf_1) (shown_arr1 a1 (shown_leaf (s := ⟨#[50]⟩) leaf_2) (by decide) (r := ⟨#[91, 50, 93]⟩) (by decide +kernel)) (shown_leaf (s := ⟨#[97]⟩) leaf_a) (by decide +kernel) (by decide +kernel)⟩
  have eL : (((os ++ [(b1, objC 1 (prF 21 2) false (.pointer none) ev1)]).length : Nat) : Int) + 1 = (os.length : Int) + 1 + 1 := by rw [List.length_append]; show ((os.length + 1 : Nat) : Int) + 1 = _; omega
  rw [eL] at H5
  have hal : Below w4.heap.size w4 (w4.alloc (.cells #[.int .i64 9, .int .i64 ((os.length : Int) + 1 + 1), .string ⟨#[]⟩] 30)) := (Below.refl _ _).alloc (Nat.le_refl _) _
  have HSH := Veil.mk (show_shown (H4.out.1.on hal).cell0 (H4.out.1.on hal).mb.lt _ _ (H5.out _ hal))
  have HBW : Veil (Below w.heap.size w (w4.alloc (.cells #[.int .i64 9, .int .i64 ((os.length : Int) + 1 + 1), .string ⟨#[]⟩] 30))) := ⟨by
    have g1 := HP.out.bel.trans (HB1.out.mono HP.out.bel.size)
    have g2 := g1.trans (H2.out.2.2.1.mono HP.out.lo)
    have g3 := g2.trans (HB3.out.mono g2.size)
    have g4 := g3.trans (((Below.refl w3.heap.size w3).alloc (Nat.le_refl _) (.cells (flatV [(3, 1, ⟨#[]⟩), (9, (os.length : Int) + 1, ⟨#[]⟩), (7, 0, ⟨#[0, 97]⟩)]).toArray 30)).mono g3.size)
    have g5 := g4.trans (H4.out.2.2.1.mono HP.out.lo)
    exact g5.trans (hal.mono g5.size)⟩
  clear hal eL H5 HA1 HA2 HB1 H2 HB3 H4
  go_wp2_with (go_at_call 11; ((with_reducible refine HSH.out.mono ?_); rintro e w9 ⟨rfl, hb9⟩))
  go_ret
  exact ⟨rfl, HBW.out.trans (hb9.mono HBW.out.size)⟩
end Go.Proofs.YtgdkjkfbknbgkaaGreatDoor
