/- Package show: brief, functions; Delete of a property. -/
import Derived.Test.YtgdkjkfbknbgkaaGreatDoorVm
import Derived.Test.YtgdkjkfbknbgkaaGreatDoorVh
namespace Go.Proofs.YtgdkjkfbknbgkaaGreatDoor
open Go Go.RowKit

set_option maxHeartbeats 1000000 in
set_option maxRecDepth 100000 in
theorem brief_no (W : World) (m h : Nat) (v : Vt) (hm : W.cell? ⟨m, 0, none⟩ = some (.pointer (some ⟨h, 0, none⟩))) (hml : m < W.heap.size) (hx : (v.1 == 9) = false) (r : ByteArray)
    (HW : Veil (∀ W', Below W.heap.size W W' → Calls Tryz.prog 28 #[.pointer (some ⟨m, 0, none⟩), valV v, .int .i64 0] W' fun e w' => e = .returned (.string r) ∧ Below W'.heap.size W' w')) :
    Calls Tryz.prog 45 #[.pointer (some ⟨m, 0, none⟩), valV v] W fun e w' => e = .returned (.string r) ∧ Below W.heap.size W w' := by
  have b1 := Box.new W 30 #[.int .i64 v.1, .int .i64 v.2.1, .string v.2.2]
  have bb : Below W.heap.size W (W.alloc (.cells #[.int .i64 v.1, .int .i64 v.2.1, .string v.2.2] 30)) := (Below.refl _ _).alloc (Nat.le_refl _) _
  obtain ⟨kb, hkb⟩ : ∃ kb, W.heap.size = kb := ⟨_, rfl⟩
  obtain ⟨W0, hW0⟩ : ∃ W0, W.alloc (.cells #[.int .i64 v.1, .int .i64 v.2.1, .string v.2.2] 30) = W0 := ⟨_, rfl⟩
  rw [hW0] at b1 bb
  have HW0 := Veil.mk (And.intro hW0 hkb)
  rw [hkb] at b1
  have HBB := Veil.mk (And.intro bb b1)
  have x0 : W0.cell? ⟨kb, 0, none⟩ = some (.int .i64 v.1) := b1.at_ 0
  have x1 : W0.cell? ⟨kb, 1, none⟩ = some (.int .i64 v.2.1) := b1.at_ 1
  have x2 : W0.cell? ⟨kb, 2, none⟩ = some (.string v.2.2) := b1.at_ 2
  clear hW0 hkb b1 bb
  have HSO := Veil.mk (object_no (W := W0) m h v (by rw [HBB.out.1.cell (p := ⟨m, 0, none⟩) hml]; exact hm) (Nat.lt_of_lt_of_le hml HBB.out.1.size) ⟨fun W' _ => of_no h v hx W'⟩)
  clear hm hml hx
  go_enter Tryz.func45, Tryz.ntmps45
  go_upto_region 1 with (fail)
  rw [HW0.out.1, HW0.out.2]
  go_upto_region 2 with (go_at_call 82; ((with_reducible refine HSO.out.mono ?_); rintro e w4 ⟨rfl, hb4⟩; have HB4 := Veil.mk hb4; clear hb4))
  have b4 := HBB.out.2.below HB4.out
  have y0 : w4.cell? ⟨kb, 0, none⟩ = some (.int .i64 v.1) := b4.at_ 0
  have y1 : w4.cell? ⟨kb, 1, none⟩ = some (.int .i64 v.2.1) := b4.at_ 1
  have y2 : w4.cell? ⟨kb, 2, none⟩ = some (.string v.2.2) := b4.at_ 2
  have HW := Veil.mk (HW.out w4 (HBB.out.1.trans (HB4.out.mono HBB.out.1.size)))
  clear b4 x0 x1 x2
  go_wp2_with (go_at_call 28; ((with_reducible refine HW.out.mono ?_); rintro e w9 ⟨rfl, hb9⟩; have HB9 := Veil.mk hb9; clear hb9))
  go_ret
  exact ⟨rfl, (HBB.out.1.trans (HB4.out.mono HBB.out.1.size)).trans (HB9.out.mono (Nat.le_trans HBB.out.1.size HB4.out.size))⟩
theorem val_name (w : World) : Calls Tryz.prog 23 #[.string ⟨#[110, 97, 109, 101]⟩] w fun e w' => e = .returned (valV kName) ∧ Below w.heap.size w w' :=
  W.val_const _ [0, 110, 0, 97, 0, 109, 0, 101] (by decide) (show Hid _ from (by decide +kernel : W.ofB ⟨#[110, 97, 109, 101]⟩ = [0, 110, 0, 97, 0, 109, 0, 101])) w
set_option maxHeartbeats 1000000 in
set_option maxRecDepth 100000 in
theorem printed_fn (W : World) (m o : Nat) (v : Vt) (av : Value) (cs : Array Value) (hb : Box W o 99 cs) (hc0 : cs[0]? = some (.int .i64 2)) (x : Vt) (fl : Int) (bl : Bool) (r : ByteArray) (hr : r.size ≤ 1000000000)
    (HSO : Veil (∀ W', Below W.heap.size W W' → Calls Tryz.prog 82 #[.pointer (some ⟨m, 0, none⟩), valV v] W' fun e w' => e = .returned (.pointer (some ⟨o, 0, none⟩)) ∧ Below W'.heap.size W' w'))
    (HOW : Veil (∀ W', Below W.heap.size W W' → Calls Tryz.prog 49 #[.pointer (some ⟨o, 0, none⟩), valV kName] W' fun e w' => e = .returned (.tuple #[valV x, .int .i64 fl, .bool bl]) ∧ Below W'.heap.size W' w'))
    (HBR : Veil (∀ W', Below W.heap.size W W' → Calls Tryz.prog 45 #[.pointer (some ⟨m, 0, none⟩), valV x] W' fun e w' => e = .returned (.string r) ∧ Below W'.heap.size W' w')) :
    Calls Tryz.prog 61 #[.pointer (some ⟨m, 0, none⟩), valV v, av] W fun e w' => e = .returned (.string (⟨#[102, 117, 110, 99, 116, 105, 111, 110, 32]⟩ ++ r)) ∧ Below W.heap.size W w' := by
  have b1 := Box.new W 30 #[.int .i64 v.1, .int .i64 v.2.1, .string v.2.2]
  have bb : Below W.heap.size W (W.alloc (.cells #[.int .i64 v.1, .int .i64 v.2.1, .string v.2.2] 30)) := (Below.refl _ _).alloc (Nat.le_refl _) _
  obtain ⟨kb, hkb⟩ : ∃ kb, W.heap.size = kb := ⟨_, rfl⟩
  obtain ⟨W0, hW0⟩ : ∃ W0, W.alloc (.cells #[.int .i64 v.1, .int .i64 v.2.1, .string v.2.2] 30) = W0 := ⟨_, rfl⟩
  rw [hW0] at b1 bb
  have HW0 := Veil.mk (And.intro hW0 hkb)
  rw [hkb] at b1
  have HBB := Veil.mk (And.intro bb b1)
  have x0 : W0.cell? ⟨kb, 0, none⟩ = some (.int .i64 v.1) := b1.at_ 0
  have x1 : W0.cell? ⟨kb, 1, none⟩ = some (.int .i64 v.2.1) := b1.at_ 1
  have x2 : W0.cell? ⟨kb, 2, none⟩ = some (.string v.2.2) := b1.at_ 2
  clear hW0 hkb b1 bb
  have HSO := Veil.mk (HSO.out W0 HBB.out.1)
  have HBX := Veil.mk (hb.below HBB.out.1)
  have HC := Veil.mk hc0
  clear hb hc0
  go_enter Tryz.func61, Tryz.ntmps61
  go_upto_region 1 with (fail)
  rw [HW0.out.1, HW0.out.2]
  go_upto_region 4 with (go_at_call 82; ((with_reducible refine HSO.out.mono ?_); rintro e w4 ⟨rfl, hb4⟩; have HB4 := Veil.mk hb4; clear hb4))
  have o0 : w4.cell? ⟨o, 0, none⟩ = some (.int .i64 2) := by rw [(HBX.out.below HB4.out).at_ 0]; exact HC.out
  have HBW4 := Veil.mk (HBB.out.1.trans (HB4.out.mono HBB.out.1.size))
  have HVN := Veil.mk (fun w => val_name w)
  go_upto_region 9 with (first | (go_at_call 23; ((with_reducible refine (HVN.out _).mono ?_); rintro e w5 ⟨rfl, hb5⟩; have HB5 := Veil.mk (HBW4.out.trans (hb5.mono HBW4.out.size)); have HOW5 := Veil.mk (HOW.out w5 HB5.out); clear hb5)) | (go_at_call 49; ((with_reducible refine HOW5.out.mono ?_); rintro e w6 ⟨rfl, hb6⟩; have HB6 := Veil.mk (HB5.out.trans (hb6.mono HB5.out.size)); clear hb6)))
  have hal : Below w6.heap.size w6 (w6.alloc (.cells #[.int .i64 x.1, .int .i64 x.2.1, .string x.2.2] 30)) := (Below.refl _ _).alloc (Nat.le_refl _) _
  have HB7 := Veil.mk (HB6.out.trans (hal.mono HB6.out.size))
  have HBR7 := Veil.mk (HBR.out _ HB7.out)
  clear hal
  go_wp2_with (go_at_call 45; ((with_reducible refine HBR7.out.mono ?_); rintro e w9 ⟨rfl, hb9⟩; have HB9 := Veil.mk hb9; clear hb9))
  go_ret
  exact ⟨rfl, HB7.out.trans (HB9.out.mono HB7.out.size)⟩
set_option maxHeartbeats 1000000 in
set_option maxRecDepth 100000 in
/-- Delete of a property that is there and may go. -/
theorem delete_plain {w : World} {B o t : Nat} {cl proto : Int} {ev fn : Value} {kd : Int} {F1 : Nat → Prop} {O : List En} (hb : Box w o 99 (objF cl proto false (.pointer (some ⟨t, 0, none⟩)) ev fn kd)) (hc : (cl == 1) = false) (hT : Tf B t F1 (O, []) w) (hn : O.length < 40000) (k : Vt) (hk6 : keyT k = k) (hk : k.2.2.size ≤ 1000) (x : Vt) (fl : Int) (hfl : (bits .and .i64 fl 4 == 0) = false) (HLK : lookO O k = (x, fl, true)) :
    Calls Tryz.prog 22 #[.pointer (some ⟨o, 0, none⟩), valV k] w fun e w' => e = .returned (.bool true) ∧ ∃ F', Box w' o 99 (objF cl proto false (.pointer (some ⟨t, 0, none⟩)) ev fn kd) ∧ Tf B t F' (delO (O, []) k) w' ∧ Touch F1 w w' ∧ ∀ b, F' b → F1 b ∨ w.heap.size ≤ b := by
  have HOW : Veil (∀ W', Below w.heap.size w W' → Calls Tryz.prog 49 #[.pointer (some ⟨o, 0, none⟩), valV k] W' fun e w' => e = .returned (.tuple #[valV x, .int .i64 fl, .bool true]) ∧ Below W'.heap.size W' w') := ⟨fun W' h9 => by
    have := own_plain (hb.below h9) hc (.inr ⟨t, rfl, hT.on h9⟩) k hk
    rw [hk6, HLK] at this
    exact this⟩
  have HEL : Veil (∀ W', Below w.heap.size w W' → Calls Tryz.prog 50 #[.pointer (some ⟨o, 0, none⟩), valV k] W' fun e w' => e = .returned (.int .i64 (-1)) ∧ Below W'.heap.size W' w') := ⟨fun W' h9 => elem_plain (hb.below h9) hc k⟩
  have HBT := Veil.mk (And.intro hb (And.intro hT (And.intro hn (And.intro hk6 hk))))
  have b1 := Box.new w 30 #[.int .i64 k.1, .int .i64 k.2.1, .string k.2.2]
  have bb : Below w.heap.size w (w.alloc (.cells #[.int .i64 k.1, .int .i64 k.2.1, .string k.2.2] 30)) := (Below.refl _ _).alloc (Nat.le_refl _) _
  obtain ⟨kb, hkb⟩ : ∃ kb, w.heap.size = kb := ⟨_, rfl⟩
  obtain ⟨W0, hW0⟩ : ∃ W0, w.alloc (.cells #[.int .i64 k.1, .int .i64 k.2.1, .string k.2.2] 30) = W0 := ⟨_, rfl⟩
  rw [hW0] at b1 bb
  have HW0 := Veil.mk (And.intro hW0 hkb)
  rw [hkb] at b1
  have HBB := Veil.mk (And.intro bb b1)
  have x0 : W0.cell? ⟨kb, 0, none⟩ = some (.int .i64 k.1) := b1.at_ 0
  have x1 : W0.cell? ⟨kb, 1, none⟩ = some (.int .i64 k.2.1) := b1.at_ 1
  have x2 : W0.cell? ⟨kb, 2, none⟩ = some (.string k.2.2) := b1.at_ 2
  have HOW1 := Veil.mk (HOW.out W0 bb)
  clear hW0 hkb b1 bb hb hT hn hk6 hk hc HLK
  go_enter Tryz.func22, Tryz.ntmps22
  go_upto_region 1 with (fail)
  rw [HW0.out.1, HW0.out.2]
  go_upto_region 2 with (go_at_call 49; ((with_reducible refine HOW1.out.mono ?_); rintro e w2 ⟨rfl, hb2⟩; have HB2 := Veil.mk (And.intro (HBB.out.1.trans (hb2.mono HBB.out.1.size)) (HBB.out.2.below hb2)); clear hb2))
  obtain ⟨W3, hW3⟩ : ∃ W3, w2.alloc (.cells #[.int .i64 x.1, .int .i64 x.2.1, .string x.2.2] 30) = W3 := ⟨_, rfl⟩
  have hal : Below w2.heap.size w2 (w2.alloc (.cells #[.int .i64 x.1, .int .i64 x.2.1, .string x.2.2] 30)) := (Below.refl _ _).alloc (Nat.le_refl _) _
  rw [hW3] at hal ⊢
  have HB3 := Veil.mk (And.intro (HB2.out.1.trans (hal.mono HB2.out.1.size)) (HB2.out.2.below hal))
  have HEL3 := Veil.mk (HEL.out W3 HB3.out.1)
  have y0 : W3.cell? ⟨kb, 0, none⟩ = some (.int .i64 k.1) := HB3.out.2.at_ 0
  have y1 : W3.cell? ⟨kb, 1, none⟩ = some (.int .i64 k.2.1) := HB3.out.2.at_ 1
  have y2 : W3.cell? ⟨kb, 2, none⟩ = some (.string k.2.2) := HB3.out.2.at_ 2
  clear hW3 hal x0 x1 x2
  go_upto_region 9 with (go_at_call 50; ((with_reducible refine HEL3.out.mono ?_); rintro e w4 ⟨rfl, hb4⟩; have HB4 := Veil.mk (And.intro (HB3.out.1.trans (hb4.mono HB3.out.1.size)) (HB3.out.2.below hb4)); clear hb4))
  obtain ⟨WD, hWD⟩ : ∃ WD, w4.drew = WD := ⟨_, rfl⟩
  have HBD : Veil (Below w.heap.size w WD ∧ Box w o 99 (objF cl proto false (.pointer (some ⟨t, 0, none⟩)) ev fn kd) ∧ Tf B t F1 (O, []) w) := ⟨by rw [← hWD]; exact HB4.out.1.drew, HBT.out.1, HBT.out.2.1⟩
  have hkx : Box WD kb 30 #[.int .i64 k.1, .int .i64 k.2.1, .string k.2.2] := by rw [← hWD]; exact HB4.out.2.drew
  have HCC : Veil (WD.cell? ⟨o, 3, none⟩ = some (.pointer (some ⟨t, 0, none⟩)) ∧ WD.cell? ⟨kb, 0, none⟩ = some (.int .i64 k.1) ∧ WD.cell? ⟨kb, 1, none⟩ = some (.int .i64 k.2.1) ∧ WD.cell? ⟨kb, 2, none⟩ = some (.string k.2.2)) := ⟨(HBD.out.2.1.below HBD.out.1).at_ 3, hkx.at_ 0, hkx.at_ 1, hkx.at_ 2⟩
  have hdl := del_tf (HBD.out.2.2.on HBD.out.1) HBT.out.2.2.1 (by show 0 < 100000; omega) k HBT.out.2.2.2.2
  rw [HBT.out.2.2.2.1] at hdl
  have HDL := Veil.mk hdl
  have HWD := Veil.mk hWD
  clear hWD hkx hdl
  refine wp_region_chain (some (· = .pointer (some ⟨o, 0, none⟩)) :: some (· = .pointer (some ⟨o, 0, none⟩)) :: some (· = .pointer (some ⟨o, 3, none⟩)) :: some (· = .pointer (some ⟨t, 0, none⟩)) :: some (· = valV k) :: none :: [] : List (Option (Value → Prop))) (LPh [5] (fun j _ w => match j with | 0 => w = WD | _ => PutP B t F1 (delO (O, []) k) WD w)) [some 35, some 36, some 37, some 38, some 39, some 40] (curV' _ [some 35, some 36, some 37, some 38, some 39, some 40]) (by kernel_rfl) rfl rfl (puts_cur _ _) (LPh.start (show _ = WD from HWD.out)) ?_ (by kernel_rfl) ?_
  · refine Steps.cons rfl (fun bb aa w' hbs hb0 hbp hI K hK => ?_) ?_
    · obtain ⟨us, hus, ha, hI⟩ := hI
      obtain ⟨u0, u1, u2, u3, u4, u5, rfl⟩ := lenA6 hus
      have HI := Veil.mk hI
      clear hI
      rw [ha]
      simp only [puts, setAll, List.setIfInBounds_toArray, List.set_cons_zero, List.set_cons_succ]
      go_simp
      exact hK _ _ (chain_step HI.out hus hbs 0 _ (by show 0 < 6; decide) rfl hbp (val_of rfl rfl) (HI.out.ph.step 0 _ (by decide) (by decide)) (by simp only [puts, setAll, List.set_cons_zero, List.set_cons_succ, List.setIfInBounds_toArray]))
    refine Steps.cons rfl (fun bb aa w' hbs hb0 hbp hI K hK => ?_) ?_
    · obtain ⟨us, hus, ha, hI⟩ := hI
      obtain ⟨u0, u1, u2, u3, u4, u5, rfl⟩ := lenA6 hus
      have e0 : u0 = .pointer (some ⟨o, 0, none⟩) := hI.val 0 _ rfl (gen_after 0 (by kernel_rfl) hbp)
      subst e0
      have HI := Veil.mk hI
      clear hI
      rw [ha]
      simp only [puts, setAll, List.setIfInBounds_toArray, List.set_cons_zero, List.set_cons_succ]
      go_simp
      exact hK _ _ (chain_step HI.out hus hbs 1 _ (by show 1 < 6; decide) rfl hbp (val_of rfl rfl) (HI.out.ph.step 1 _ (by decide) (by decide)) (by simp only [puts, setAll, List.set_cons_zero, List.set_cons_succ, List.setIfInBounds_toArray]))
    refine Steps.cons rfl (fun bb aa w' hbs hb0 hbp hI K hK => ?_) ?_
    · obtain ⟨us, hus, ha, hI⟩ := hI
      obtain ⟨u0, u1, u2, u3, u4, u5, rfl⟩ := lenA6 hus
      have e1 : u1 = .pointer (some ⟨o, 0, none⟩) := hI.val 1 _ rfl (gen_after 1 (by kernel_rfl) hbp)
      subst e1
      have HI := Veil.mk hI
      clear hI
      rw [ha]
      simp only [puts, setAll, List.setIfInBounds_toArray, List.set_cons_zero, List.set_cons_succ]
      go_simp
      exact hK _ _ (chain_step HI.out hus hbs 2 _ (by show 2 < 6; decide) rfl hbp (val_of rfl rfl) (HI.out.ph.step 2 _ (by decide) (by decide)) (by simp only [puts, setAll, List.set_cons_zero, List.set_cons_succ, List.setIfInBounds_toArray]))
    refine Steps.cons rfl (fun bb aa w' hbs hb0 hbp hI K hK => ?_) ?_
    · obtain ⟨us, hus, ha, hI⟩ := hI
      obtain ⟨u0, u1, u2, u3, u4, u5, rfl⟩ := lenA6 hus
      have e2 : u2 = .pointer (some ⟨o, 3, none⟩) := hI.val 2 _ rfl (gen_after 2 (by kernel_rfl) hbp)
      subst e2
      have gb := (hI.bwd [3] 5 3 (by kernel_rfl) rfl hb0)
      have hst := hI.ph.btw1 0 (.inl rfl) (.inr ⟨5, rfl, gb⟩)
      have hst' : WD = w' := (show w' = WD from hst).symm
      clear hst
      subst hst'
      have c0 := HCC.out.1
      clear gb
      have HI := Veil.mk hI
      clear hI
      rw [ha]
      simp only [puts, setAll, List.setIfInBounds_toArray, List.set_cons_zero, List.set_cons_succ]
      go_simp
      exact hK _ _ (chain_step HI.out hus hbs 3 _ (by show 3 < 6; decide) rfl hbp (val_of rfl rfl) (HI.out.ph.step 3 _ (by decide) (by decide)) (by simp only [puts, setAll, List.set_cons_zero, List.set_cons_succ, List.setIfInBounds_toArray]))
    refine Steps.cons rfl (fun bb aa w' hbs hb0 hbp hI K hK => ?_) ?_
    · obtain ⟨us, hus, ha, hI⟩ := hI
      obtain ⟨u0, u1, u2, u3, u4, u5, rfl⟩ := lenA6 hus
      have gb := (hI.bwd [4] 5 4 (by kernel_rfl) rfl hb0)
      have hst := hI.ph.btw1 0 (.inl rfl) (.inr ⟨5, rfl, gb⟩)
      have hst' : WD = w' := (show w' = WD from hst).symm
      clear hst
      subst hst'
      obtain ⟨c0, c1, c2⟩ := HCC.out.2
      clear gb
      have HI := Veil.mk hI
      clear hI
      rw [ha]
      simp only [puts, setAll, List.setIfInBounds_toArray, List.set_cons_zero, List.set_cons_succ]
      go_simp
      exact hK _ _ (chain_step HI.out hus hbs 4 _ (by show 4 < 6; decide) rfl hbp (val_of rfl rfl) (HI.out.ph.step 4 _ (by decide) (by decide)) (by simp only [puts, setAll, List.set_cons_zero, List.set_cons_succ, List.setIfInBounds_toArray]))
    refine Steps.cons rfl (fun bb aa w' hbs hb0 hbp hI K hK => ?_) ?_
    · obtain ⟨us, hus, ha, hI⟩ := hI
      obtain ⟨u0, u1, u2, u3, u4, u5, rfl⟩ := lenA6 hus
      have e3 : u3 = .pointer (some ⟨t, 0, none⟩) := hI.val 3 _ rfl (gen_after 3 (by kernel_rfl) hbp)
      subst e3
      have e4 : u4 = valV k := hI.val 4 _ rfl (gen_after 4 (by kernel_rfl) hbp)
      subst e4
      have gb := hb0
      have hst := hI.ph.btw1 0 (.inl rfl) (.inr ⟨5, rfl, gb⟩)
      have hst' : WD = w' := (show w' = WD from hst).symm
      clear hst
      subst hst'
      clear gb
      have HI := Veil.mk hI
      clear hI
      rw [ha]
      simp only [puts, setAll, List.setIfInBounds_toArray, List.set_cons_zero, List.set_cons_succ]
      go_simp
      go_at_call 51
      refine HDL.out.mono ?_
      rintro e9 w9 ⟨r9, rfl, -, hp9⟩
      go_simp
      exact hK _ _ (chain_step HI.out hus hbs 5 (.bool r9) (by show 5 < 6; decide) rfl hbp (none_of rfl) (HI.out.ph.next 0 5 _ rfl hb0 (.inl rfl) (by decide) (hp9)) (by simp only [puts, setAll, List.set_cons_zero, List.set_cons_succ, List.setIfInBounds_toArray]))
    exact Steps.nil
  · intro us wE hus dd hD2 hJ
    obtain ⟨p0, p1, p2, p3, p4, p5, rfl⟩ := lenA6 hus
    have q1 := hJ.ph.all (fun c hc => hD2 c (by
      have : c = 5 := by simpa using hc
      show c < 6
      omega))
    have e0 : p0 = .pointer (some ⟨o, 0, none⟩) := hJ.val 0 _ rfl (hD2 0 (by show 0 < 6; decide))
    subst e0
    have e1 : p1 = .pointer (some ⟨o, 0, none⟩) := hJ.val 1 _ rfl (hD2 1 (by show 1 < 6; decide))
    subst e1
    have e2 : p2 = .pointer (some ⟨o, 3, none⟩) := hJ.val 2 _ rfl (hD2 2 (by show 2 < 6; decide))
    subst e2
    have e3 : p3 = .pointer (some ⟨t, 0, none⟩) := hJ.val 3 _ rfl (hD2 3 (by show 3 < 6; decide))
    subst e3
    have e4 : p4 = valV k := hJ.val 4 _ rfl (hD2 4 (by show 4 < 6; decide))
    subst e4
    clear hJ hD2
    have HQ := Veil.mk (show PutP B t F1 (delO (O, []) k) WD wE from q1)
    clear q1
    simp only [puts, setAll, List.setIfInBounds_toArray, List.set_cons_zero, List.set_cons_succ]
    go_wp2
    go_ret
    obtain ⟨F', hT, hfs⟩ := HQ.out
    refine ⟨rfl, ?_, F', hT, ?_, fun b hb => ?_⟩
    · exact (HBD.out.2.1.below HBD.out.1).touch hfs.touch (fun h9 => (HBD.out.2.2.on HBD.out.1).not_lab (HBD.out.2.1.below HBD.out.1).lab (by decide) h9)
    · exact (Touch.of_below HBD.out.1).trans hfs.touch
    · exact (hfs.fresh b hb).imp id (fun h9 => Nat.le_trans HBD.out.1.size h9)
end Go.Proofs.YtgdkjkfbknbgkaaGreatDoor
