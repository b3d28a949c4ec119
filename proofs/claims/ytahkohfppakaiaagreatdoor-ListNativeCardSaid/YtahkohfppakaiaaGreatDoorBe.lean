/- Texts of the stage, joined: Va In Vb Vc Vd Vk Vl Vm Vp Ms Ub Uk Ul Um Ue Uo Un Xw Up. -/
import Derived.Test.YtahkohfppakaiaaGreatDoorBd
import Derived.Maps.AppendAt
import Derived.Test.YtahkohfppakaiaaGreatDoorBb
import Derived.Defers
import Derived.BigQuiet
set_option maxHeartbeats 40000000
set_option maxRecDepth 100000
namespace Go.Proofs.YtahkohfppakaiaaGreatDoor
open Go Go.RowKit
theorem len10 {α : Type} {us : List α} (h : us.length = 10) : ∃ a0 a1 a2 a3 a4 a5 a6 a7 a8 a9, us = [a0, a1, a2, a3, a4, a5, a6, a7, a8, a9] := by
 match us, h with
 | [a0, a1, a2, a3, a4, a5, a6, a7, a8, a9], _ => exact ⟨a0, a1, a2, a3, a4, a5, a6, a7, a8, a9, rfl⟩
theorem len7 {α : Type} {us : List α} (h : us.length = 7) : ∃ a0 a1 a2 a3 a4 a5 a6, us = [a0, a1, a2, a3, a4, a5, a6] := by
 match us, h with
 | [a0, a1, a2, a3, a4, a5, a6], _ => exact ⟨a0, a1, a2, a3, a4, a5, a6, rfl⟩
theorem CJ.back {l : List Oper} {ks : List (Option (Value -> Prop))} {Ph : (Nat -> Bool) -> (Nat -> Value) -> World -> Prop} {d : Nat -> Bool} {us : Nat -> Value} {w : World} (h : CJ l ks Ph d us w) (i j : Nat) {o : Oper} (ho : l[i]? = some o) (ha : (o.after.any fun e => Region.binds .any e && e.on == j) = true) (hi : d i = true) : d j = true := by
 cases hj : d j with
 | true => rfl
 | false => rw [h.before i j ho ha hj] at hi; cases hi
theorem LPh.le {cs : List Nat} {St : Nat -> (Nat -> Value) -> World -> Prop} {d : Nat -> Bool} {us : Nat -> Value} {w : World} (h : LPh cs St d us w) (j c : Nat) (hc : cs[j]? = some c) (hd : d c = false) : ∃ s, s <= j /\ St s (fun j => us (cs.getD j 1000000)) w := by
 obtain ⟨s, h1, h2, h3⟩ := h
 refine ⟨s, ?_, h3⟩
 rcases Nat.lt_or_ge j s with hlt | hge
 ·have := (h2 j c hc).2 hlt
  rw [hd] at this
  cases this
 ·exact hge
theorem clone_nb (w : World) : Calls Tryz.prog 63 #[.slice none 0 0] w fun e w' => e = .returned (.slice none 0 0) /\ w' = w := by
 have he : ∀ w : World, (binOp .eql 44 (.slice none 0 0) (.slice none 0 0)).run Tryz.prog w = .ok (.bool true) w := fun _ => rfl
 go_enter Tryz.func63, Tryz.ntmps63
 go_wp2
 go_ret
 exact ⟨rfl, rfl⟩
theorem new_x (w : World) : Calls Tryz.prog 103 #[] w fun e w' => e = .returned (.pointer (some ⟨w.heap.size, 0, none⟩)) /\ w' = w.alloc (.cells #[.slice none 0 0, .slice none 0 0, .int .i64 0, .slice none 0 0] 187) := by
 go_enter Tryz.func103, Tryz.ntmps103
 go_wp2
 go_ret
 exact ⟨rfl, rfl⟩
theorem heap_newx (w : World) : Calls Tryz.prog 64 #[] w fun e w' => e = .returned (.pointer (some ⟨w.heap.size + 1, 0, none⟩)) /\ Below w.heap.size w w' /\ HpAt w' w.heap.size (w.heap.size + 1) w.heap.size (.slice none 0 0) (.slice none 0 0) (.slice none 0 0) emptyD /\ w'.heap.size = w.heap.size + 2 := by
 have h0 := new_x w
 have h1 := new_any w
 have h2 : Calls Tryz.prog 103 #[] w fun e w' => e = .returned (.pointer (some ⟨w.heap.size, 0, none⟩)) /\ Below w.heap.size w w' /\ w'.heap.size = w.heap.size + 1 /\ ArAt w' w.heap.size w.heap.size (.slice none 0 0) (.slice none 0 0) (.slice none 0 0) emptyD := by
  refine h0.mono ?_
  rintro e w' ⟨rfl, rfl⟩
  refine ⟨rfl, (Below.refl _ _).alloc (Nat.le_refl _) _, by simp, ⟨Box.new _ _ _, ⟨rfl, .inl ⟨rfl, rfl⟩⟩, ⟨rfl, .inl ⟨rfl, rfl⟩⟩, ⟨rfl, .inl ⟨rfl, rfl⟩⟩, fun k hk => (by cases hk), Nat.le_refl _⟩⟩
 have HN := Veil.mk h2
 obtain ⟨A, hA⟩ : ∃ A, w.heap.size = A := ⟨_, rfl⟩
 rw [hA] at HN ⊢
 clear h0 h1 h2
 have HA := Veil.mk hA
 clear hA
 go_enter Tryz.func64, Tryz.ntmps64
 go_wp2_with (first | (go_at_call 103; ((with_reducible refine HN.out.mono ?_); rintro e w4 ⟨rfl, hb4, hs4, ha4⟩)))
 have bx := Box.new w4 135 #[.pointer (some ⟨A, 0, none⟩), .int .i64 0]
 have b5 : Below w4.heap.size w4 (w4.alloc (.cells #[.pointer (some ⟨A, 0, none⟩), .int .i64 0] 135)) := (Below.refl _ _).alloc (Nat.le_refl _) _
 have hsz : (w4.alloc (.cells #[.pointer (some ⟨A, 0, none⟩), .int .i64 0] 135)).heap.size = A + 2 := by rw [World.size_alloc, hs4]
 rw [hs4] at bx
 go_ret
 exact ⟨rfl, hb4.trans (b5.mono (by omega)), ⟨bx, ha4.on b5, by omega⟩, hsz⟩
abbrev machC (hp hv : Value) : Array Value := #[hp, .int .i64 0, .int .i64 0, .int .i64 0, .int .i64 0, .int .i64 0, .int .i64 0, .int .i64 0, .int .i64 0, .int .i64 0, .int .i64 0, .int .i64 0, .int .i64 0, .int .i64 0, .int .i64 0, .int .i64 0, .int .i64 0, .int .i64 0, .int .i64 0, .int .i64 0, .int .i64 0, .int .i64 0, .int .i64 0, .int .i64 0, .int .i64 0, .string ⟨#[]⟩, hv, .int .i64 4194304, .int .i64 20, .int .i64 100000, .slice none 0 0, .bool false, .slice none 0 0, .int .i64 0, .slice none 0 0, .int .i64 0, .int .i64 0, .slice none 0 0, .slice none 0 0, .slice none 0 0, .slice none 0 0, .bool false, .int .i64 0, .slice none 0 0, .slice none 0 0, .slice none 0 0, .slice none 0 0, .map none]
def VnSt (sb : Nat) (WD : World) : Nat -> (Nat -> Value) -> World -> Prop
 | 0 => fun _ w => w = WD
 | 1 => fun _ w => w = WD.setCell ⟨sb, 0, none⟩ (.slice none 0 0)
 | _ => fun _ w => w = (WD.setCell ⟨sb, 0, none⟩ (.slice none 0 0)).setCell ⟨sb, 2, none⟩ (.slice none 0 0)
def VmSt (hv : Value) (WE : World) : Nat -> (Nat -> Value) -> World -> Prop
 | 0 => fun _ w => w = WE
 | 1 => fun _ w => Below WE.heap.size WE w /\ HpAt w WE.heap.size (WE.heap.size + 1) WE.heap.size (.slice none 0 0) (.slice none 0 0) (.slice none 0 0) emptyD /\ w.heap.size = WE.heap.size + 2
 | _ => fun _ w => Below WE.heap.size WE w /\ HpAt w WE.heap.size (WE.heap.size + 1) WE.heap.size (.slice none 0 0) (.slice none 0 0) (.slice none 0 0) emptyD /\ Box w (WE.heap.size + 2) 55 (machC (.pointer (some ⟨WE.heap.size + 1, 0, none⟩)) hv)
theorem VmSt.below {hv : Value} {WE w : World} {s : Nat} {f : Nat -> Value} (hs : s <= 1) (hst : VmSt hv WE s f w) : Below WE.heap.size WE w := by
 match s, hs, hst with
 | 0, _, hst => rw [show w = WE from hst]; exact Below.refl _ _
 | 1, _, hst => exact hst.1
theorem vm_new (w : World) : Calls Tryz.prog 30 #[(Value.iface 90 (.agg #[])), .agg #[.int .i64 4194304, .int .i64 20, .int .i64 100000], .agg #[.slice none 0 0, .bool false, .slice none 0 0]] w fun e w' => ∃ h A m, e = .returned (.pointer (some ⟨m, 0, none⟩)) /\ w.heap.size <= A /\ A <= m /\ HpAt w' A h A (.slice none 0 0) (.slice none 0 0) (.slice none 0 0) emptyD /\ Box w' m 55 (machC (.pointer (some ⟨h, 0, none⟩)) (Value.iface 90 (.agg #[]))) /\ Below w.heap.size w w' := by
 obtain ⟨kb, hkb⟩ : ∃ kb, w.heap.size = kb := ⟨_, rfl⟩
 obtain ⟨sb, hsb⟩ : ∃ sb, kb + 1 = sb := ⟨_, rfl⟩
 have b1 := (Box.new w 43 #[.int .i64 4194304, .int .i64 20, .int .i64 100000]).more (.cells #[.slice none 0 0, .bool false, .slice none 0 0] 46)
 have b2 := Box.new (w.alloc (.cells #[.int .i64 4194304, .int .i64 20, .int .i64 100000] 43)) 46 #[.slice none 0 0, .bool false, .slice none 0 0]
 have bb : Below w.heap.size w ((w.alloc (.cells #[.int .i64 4194304, .int .i64 20, .int .i64 100000] 43)).alloc (.cells #[.slice none 0 0, .bool false, .slice none 0 0] 46)) := ((Below.refl _ _).alloc (Nat.le_refl _) _).alloc (by simp) _
 rw [World.size_alloc] at b2
 obtain ⟨W0, hW0⟩ : ∃ W0, ((w.alloc (.cells #[.int .i64 4194304, .int .i64 20, .int .i64 100000] 43)).alloc (.cells #[.slice none 0 0, .bool false, .slice none 0 0] 46)) = W0 := ⟨_, rfl⟩
 rw [hW0] at b1 b2 bb
 have HW0 := Veil.mk (And.intro hW0 (And.intro hkb hsb))
 rw [hkb] at b1 b2
 rw [hsb] at b2
 have HCL := Veil.mk clone_nb
 have x0 : W0.cell? ⟨kb, 0, none⟩ = some (.int .i64 4194304) := b1.at_ 0
 have x1 : W0.cell? ⟨kb, 1, none⟩ = some (.int .i64 20) := b1.at_ 1
 have x2 : W0.cell? ⟨kb, 2, none⟩ = some (.int .i64 100000) := b1.at_ 2
 have f0 := b1.free 0
 have f1 := b1.free 1
 have f2 := b1.free 2
 have HB0 := Veil.mk (And.intro bb (And.intro b1 b2))
 clear b1 b2 bb hW0 hkb hsb
 go_enter Tryz.func30, Tryz.ntmps30
 go_upto_region 1 with (fail)
 rw [HW0.out.1, HW0.out.2.1, HW0.out.2.2]
 go_upto_region 4 with (fail)
 have HBX : Veil (Below w.heap.size w (((W0.setCell ⟨kb, 0, none⟩ (.int .i64 4194304)).setCell ⟨kb, 1, none⟩ (.int .i64 20)).setCell ⟨kb, 2, none⟩ (.int .i64 100000)) /\ Box (((W0.setCell ⟨kb, 0, none⟩ (.int .i64 4194304)).setCell ⟨kb, 1, none⟩ (.int .i64 20)).setCell ⟨kb, 2, none⟩ (.int .i64 100000)) kb 43 #[.int .i64 4194304, .int .i64 20, .int .i64 100000] /\ Box (((W0.setCell ⟨kb, 0, none⟩ (.int .i64 4194304)).setCell ⟨kb, 1, none⟩ (.int .i64 20)).setCell ⟨kb, 2, none⟩ (.int .i64 100000)) sb 46 #[.slice none 0 0, .bool false, .slice none 0 0]) := ⟨by
  obtain ⟨h1, h2, h3⟩ := HB0.out
  have hk := HW0.out.2.1
  have t3 : Touch (fun k => k = kb) W0 (((W0.setCell ⟨kb, 0, none⟩ (.int .i64 4194304)).setCell ⟨kb, 1, none⟩ (.int .i64 20)).setCell ⟨kb, 2, none⟩ (.int .i64 100000)) := ((Touch.put (S := fun k => k = kb) rfl _ _).trans (Touch.put (S := fun k => k = kb) rfl _ _)).trans (Touch.put (S := fun k => k = kb) rfl _ _)
  exact ⟨h1.trans (t3.below h1.size (fun k hk2 => by omega)), ((h2.put 0 (.int .i64 4194304)).put 1 (.int .i64 20)).put 2 (.int .i64 100000), h3.touch t3 (fun e => h3.lab.ne h2.lab (by decide) e)⟩⟩
 clear x0 x1 x2 f0 f1 f2 HB0
 generalize (((W0.setCell ⟨kb, 0, none⟩ (.int .i64 4194304)).setCell ⟨kb, 1, none⟩ (.int .i64 20)).setCell ⟨kb, 2, none⟩ (.int .i64 100000)) = W3 at HBX ⊢
 obtain ⟨WD, hWD⟩ : ∃ WD, W3.drew = WD := ⟨_, rfl⟩
 have HSB : Veil (Box WD sb 46 #[.slice none 0 0, .bool false, .slice none 0 0]) := ⟨by rw [<- hWD]; exact HBX.out.2.2.drew⟩
 have HKB : Veil (Box WD kb 43 #[.int .i64 4194304, .int .i64 20, .int .i64 100000]) := ⟨by rw [<- hWD]; exact HBX.out.2.1.drew⟩
 have HBD : Veil (Below w.heap.size w WD) := ⟨by rw [<- hWD]; exact HBX.out.1.drew⟩
 have HWD := Veil.mk hWD
 clear hWD HBX
 refine wp_region_chain [qp sb 0, qq (.slice none 0 0), qq (.slice none 0 0), qp sb 2, qq (.slice none 0 0), qq (.slice none 0 0), qp sb 0, none, qp sb 2, none] (LPh [7, 9] (VnSt sb WD)) [some 22, some 23, some 24, some 25, some 26, some 27, some 28, none, some 29, none] (curV' _ [some 22, some 23, some 24, some 25, some 26, some 27, some 28, none, some 29, none]) (by kernel_rfl) rfl rfl (puts_cur _ _) (LPh.start (show W3.drew = WD from HWD.out)) ?_ (by kernel_rfl) ?_
 ·refine SY (fun _ S => ?_) ?_
  ·obtain ⟨⟩ := n10 S.hu
   rw [pin S.ha]
   go_simp
   exact S.kL 0
  refine SY (fun w' S => ?_) ?_
  ·obtain ⟨⟩ := n10 S.hu
   obtain rfl := S.q 0
   have h2 := S.hI.before 2 1 rfl (by kernel_rfl) S.h0
   have h7 := S.hI.before 7 2 rfl (by kernel_rfl) h2
   have hst := S.hI.ph.at_ 0 7 rfl h7 (.inl rfl)
   clear h7 h2
   have c0 : w'.cell? ⟨sb, 0, none⟩ = some (.slice none 0 0) := by rw [show w' = WD from hst]; exact HSB.out.at_ 0
   rw [pin S.ha]
   go_simp
   exact S.kL 1
  refine SC rfl (fun bb aa w' us hus ha hI hbs hb0 hbp K hK => ?_) ?_
  ·obtain ⟨u0, u1, u2, u3, u4, u5, u6, u7, u8, u9, rfl⟩ := len10 hus
   have e1 : u1 = .slice none 0 0 := hI.vl 1 rfl hbp; subst e1
   have h7 := hI.before 7 2 rfl (by kernel_rfl) hb0
   have HI := Veil.mk hI
   clear hI h7
   rw [ha]
   simp only [puts, setAll, List.setIfInBounds_toArray, List.set_cons_zero, List.set_cons_succ]
   go_simp
   go_at_call 63
   refine (HCL.out _).mono ?_
   rintro e9 w9 ⟨rfl, h9⟩
   subst w9
   go_simp
   exact kL hK HI hus hbs 2 rfl rfl hbp rfl rfl
  refine SY (fun _ S => ?_) ?_
  ·obtain ⟨⟩ := n10 S.hu
   rw [pin S.ha]
   go_simp
   exact S.kL 3
  refine SY (fun w' S => ?_) ?_
  ·obtain ⟨⟩ := n10 S.hu
   obtain rfl := S.q 3
   have h5 := S.hI.before 5 4 rfl (by kernel_rfl) S.h0
   have h7 := S.hI.before 7 5 rfl (by kernel_rfl) h5
   have hst := S.hI.ph.at_ 0 7 rfl h7 (.inl rfl)
   clear h7 h5
   have c0 : w'.cell? ⟨sb, 2, none⟩ = some (.slice none 0 0) := by rw [show w' = WD from hst]; exact HSB.out.at_ 2
   rw [pin S.ha]
   go_simp
   exact S.kL 4
  refine SC rfl (fun bb aa w' us hus ha hI hbs hb0 hbp K hK => ?_) ?_
  ·obtain ⟨u0, u1, u2, u3, u4, u5, u6, u7, u8, u9, rfl⟩ := len10 hus
   have e4 : u4 = .slice none 0 0 := hI.vl 4 rfl hbp; subst e4
   have h7 := hI.before 7 5 rfl (by kernel_rfl) hb0
   have HI := Veil.mk hI
   clear hI h7
   rw [ha]
   simp only [puts, setAll, List.setIfInBounds_toArray, List.set_cons_zero, List.set_cons_succ]
   go_simp
   go_at_call 63
   refine (HCL.out _).mono ?_
   rintro e9 w9 ⟨rfl, h9⟩
   subst w9
   go_simp
   exact kL hK HI hus hbs 5 rfl rfl hbp rfl rfl
  refine SY (fun _ S => ?_) ?_
  ·obtain ⟨⟩ := n10 S.hu
   rw [pin S.ha]
   go_simp
   exact S.kL 6
  refine SY (fun w' S => ?_) ?_
  ·obtain ⟨⟩ := n10 S.hu
   obtain rfl := S.q 6
   obtain rfl := S.q 2
   have hst := S.hI.ph.at_ 0 7 rfl S.h0 (.inl rfl)
   have HST := Veil.mk (show w' = WD from hst)
   have hrb : Box w' sb 46 #[.slice none 0 0, .bool false, .slice none 0 0] := by rw [HST.out]; exact HSB.out
   have c0 : w'.cell? ⟨sb, 0, none⟩ = some (.slice none 0 0) := hrb.at_ 0
   have f0 := hrb.free 0
   clear hst hrb
   rw [pin S.ha]
   go_simp
   exact S.kN 7 undef (S.hI.ph.next 0 7 _ rfl S.h0 (.inl rfl) (by decide) (show _ = WD.setCell ⟨sb, 0, none⟩ (.slice none 0 0) by rw [HST.out]))
  refine SY (fun _ S => ?_) ?_
  ·obtain ⟨⟩ := n10 S.hu
   rw [pin S.ha]
   go_simp
   exact S.kL 8
  refine SY (fun w' S => ?_) ?_
  ·obtain ⟨⟩ := n10 S.hu
   obtain rfl := S.q 8
   obtain rfl := S.q 5
   have hst := S.hI.ph.at_ 1 9 rfl S.h0 (.inr ⟨7, rfl, gen_after 7 (by kernel_rfl) S.hp⟩)
   have HST := Veil.mk (show w' = WD.setCell ⟨sb, 0, none⟩ (.slice none 0 0) from hst)
   have hrb : Box w' sb 46 #[.slice none 0 0, .bool false, .slice none 0 0] := by rw [HST.out]; exact HSB.out.put 0 (.slice none 0 0)
   have c0 : w'.cell? ⟨sb, 2, none⟩ = some (.slice none 0 0) := hrb.at_ 2
   have f0 := hrb.free 2
   clear hst hrb
   rw [pin S.ha]
   go_simp
   exact S.kN 9 undef (S.hI.ph.next 1 9 _ rfl S.h0 (.inr ⟨7, rfl, gen_after 7 (by kernel_rfl) S.hp⟩) (by decide) (show _ = (WD.setCell ⟨sb, 0, none⟩ (.slice none 0 0)).setCell ⟨sb, 2, none⟩ (.slice none 0 0) by rw [HST.out]))
  exact Steps.nil
 ·intro us w9 hus dd hD2 hJ
  obtain ⟨⟩ := n10 hus
  have q1 := hJ.ph.all (fun c hc => hD2 c (by
   have : c = 7 \/ c = 9 := by simpa using hc
   show c < 10
   omega))
  replace q1 : w9 = (WD.setCell ⟨sb, 0, none⟩ (.slice none 0 0)).setCell ⟨sb, 2, none⟩ (.slice none 0 0) := q1
  have t2 : Touch (fun k => k = sb) WD w9 := by rw [q1]; exact (Touch.put (S := fun k => k = sb) rfl _ _).trans (Touch.put (S := fun k => k = sb) rfl _ _)
  have s9 : Box w9 sb 46 #[.slice none 0 0, .bool false, .slice none 0 0] := by rw [q1]; exact (HSB.out.put 0 (.slice none 0 0)).put 2 (.slice none 0 0)
  have k9 := HKB.out.touch t2 (fun e => HKB.out.lab.ne HSB.out.lab (by decide) e)
  have hsbw : w.heap.size <= sb := by have := HW0.out.2.1; have := HW0.out.2.2; omega
  have b9 : Below w.heap.size w w9 := HBD.out.trans (t2.below HBD.out.size (fun k hk => by rw [hk]; exact hsbw))
  obtain ⟨WE, hWE⟩ : ∃ WE, w9.drew = WE := ⟨_, rfl⟩
  have hbe : Below w9.heap.size w9 WE := by rw [<- hWE]; exact (Below.refl _ _).drew
  have HBB : Veil (∀ W, Below WE.heap.size WE W -> W.cell? ⟨kb, 0, none⟩ = some (.int .i64 4194304) /\ W.cell? ⟨kb, 1, none⟩ = some (.int .i64 20) /\ W.cell? ⟨kb, 2, none⟩ = some (.int .i64 100000)) := ⟨fun W hb => by
   have := (k9.below hbe).below hb
   exact ⟨this.at_ 0, this.at_ 1, this.at_ 2⟩⟩
  have HSS : Veil (∀ W, Below WE.heap.size WE W -> W.cell? ⟨sb, 0, none⟩ = some (.slice none 0 0) /\ W.cell? ⟨sb, 1, none⟩ = some (.bool false) /\ W.cell? ⟨sb, 2, none⟩ = some (.slice none 0 0)) := ⟨fun W hb => by
   have := (s9.below hbe).below hb
   exact ⟨this.at_ 0, this.at_ 1, this.at_ 2⟩⟩
  have HBE : Veil (Below w.heap.size w WE) := ⟨blw2 b9 hbe⟩
  have HWE := Veil.mk hWE
  clear hJ hD2 q1 t2 s9 k9 hsbw b9 hbe hWE
  simp only [puts, setAll, List.set_cons_zero, List.set_cons_succ, List.setIfInBounds_toArray]
  go_upto_region 5 with (fail)
  refine wp_region_chain [qp (WE.heap.size + 1) 0, qq (Value.iface 90 (.agg #[])), qq (.agg #[.int .i64 4194304, .int .i64 20, .int .i64 100000]), qq (.agg #[.slice none 0 0, .bool false, .slice none 0 0]), qq (.agg (machC (.pointer (some ⟨WE.heap.size + 1, 0, none⟩)) (Value.iface 90 (.agg #[])))), qp (WE.heap.size + 2) 0, qp (WE.heap.size + 2) 0] (LPh [0, 5] (VmSt (Value.iface 90 (.agg #[])) WE)) [some 30, some 31, some 32, some 33, some 34, some 35, some 6] (curV' _ [some 30, some 31, some 32, some 33, some 34, some 35, some 6]) (by kernel_rfl) rfl rfl (puts_cur _ _) (LPh.start (show w9.drew = WE from HWE.out)) ?_ (by kernel_rfl) ?_
  ·refine SY (fun w' S => ?_) ?_
   ·obtain ⟨⟩ := n7 S.hu
    have hst := S.hI.ph.at_ 0 0 rfl S.h0 (.inl rfl)
    have HST := Veil.mk (show w' = WE from hst)
    have HNX := Veil.mk (heap_newx w')
    clear hst
    rw [pin S.ha]
    go_simp
    go_at_call 64
    refine HNX.out.mono ?_
    rintro e9 w9 ⟨rfl, hb9, hp9, hs9⟩
    go_simp
    exact S.hK _ _ (chain_step S.hI S.hu S.hs 0 (.pointer (some ⟨w'.heap.size + 1, 0, none⟩)) (by show 0 < 7; decide) rfl S.hp (val_of rfl (by rw [HST.out])) (S.hI.ph.next 0 0 _ rfl S.h0 (.inl rfl) (by decide) (show Below WE.heap.size WE w9 /\ HpAt w9 WE.heap.size (WE.heap.size + 1) WE.heap.size (.slice none 0 0) (.slice none 0 0) (.slice none 0 0) emptyD /\ w9.heap.size = WE.heap.size + 2 by rw [<- HST.out]; exact ⟨hb9, hp9, hs9⟩)) (by simp only [puts, setAll, List.set_cons_zero, List.set_cons_succ, List.setIfInBounds_toArray]))
   refine SY (fun _ S => ?_) ?_
   ·obtain ⟨⟩ := n7 S.hu
    rw [pin S.ha]
    go_simp
    exact S.kL 1
   refine SC rfl (fun bb aa w' us hus ha hI hbs hb0 hbp K hK => ?_) ?_
   ·obtain ⟨u0, u1, u2, u3, u4, u5, u6, rfl⟩ := len7 hus
    have h4 := hI.before 4 2 rfl (by kernel_rfl) hb0
    have h5 := hI.before 5 4 rfl (by kernel_rfl) h4
    obtain ⟨sg, hsg, hstg⟩ := hI.ph.le 1 5 rfl h5
    have hbl := VmSt.below hsg hstg
    obtain ⟨c0, c1, c2⟩ := HBB.out w' hbl
    clear hstg hbl
    have HI := Veil.mk hI
    clear hI h5 h4
    rw [ha]
    simp only [puts, setAll, List.setIfInBounds_toArray, List.set_cons_zero, List.set_cons_succ]
    go_simp
    exact kL hK HI hus hbs 2 rfl rfl hbp rfl rfl
   refine SC rfl (fun bb aa w' us hus ha hI hbs hb0 hbp K hK => ?_) ?_
   ·obtain ⟨u0, u1, u2, u3, u4, u5, u6, rfl⟩ := len7 hus
    have h4 := hI.before 4 3 rfl (by kernel_rfl) hb0
    have h5 := hI.before 5 4 rfl (by kernel_rfl) h4
    obtain ⟨sg, hsg, hstg⟩ := hI.ph.le 1 5 rfl h5
    have hbl := VmSt.below hsg hstg
    obtain ⟨c0, c1, c2⟩ := HSS.out w' hbl
    clear hstg hbl
    have HI := Veil.mk hI
    clear hI h5 h4
    rw [ha]
    simp only [puts, setAll, List.setIfInBounds_toArray, List.set_cons_zero, List.set_cons_succ]
    go_simp
    exact kL hK HI hus hbs 3 rfl rfl hbp rfl rfl
   refine SY (fun _ S => ?_) ?_
   ·obtain ⟨⟩ := n7 S.hu
    obtain rfl := S.q 0
    obtain rfl := S.q 1
    obtain rfl := S.q 2
    obtain rfl := S.q 3
    rw [pin S.ha]
    go_simp
    exact S.kL 4
   refine SY (fun w' S => ?_) ?_
   ·obtain ⟨⟩ := n7 S.hu
    obtain rfl := S.q 4
    have HB0 := S.hI.back 4 0 rfl (by kernel_rfl) (gen_after 4 (by kernel_rfl) S.hp)
    have hst := S.hI.ph.at_ 1 5 rfl S.h0 (.inr ⟨0, rfl, HB0⟩)
    have HST := Veil.mk (show Below WE.heap.size WE w' /\ HpAt w' WE.heap.size (WE.heap.size + 1) WE.heap.size (.slice none 0 0) (.slice none 0 0) (.slice none 0 0) emptyD /\ w'.heap.size = WE.heap.size + 2 from hst)
    have hal : Below w'.heap.size w' (w'.alloc (.cells (machC (.pointer (some ⟨WE.heap.size + 1, 0, none⟩)) (Value.iface 90 (.agg #[]))) 55)) := (Below.refl _ _).alloc (Nat.le_refl _) _
    have bxn := Box.new w' 55 (machC (.pointer (some ⟨WE.heap.size + 1, 0, none⟩)) (Value.iface 90 (.agg #[])))
    rw [HST.out.2.2] at bxn
    have HNX : Veil (Below WE.heap.size WE (w'.alloc (.cells (machC (.pointer (some ⟨WE.heap.size + 1, 0, none⟩)) (Value.iface 90 (.agg #[]))) 55)) /\ HpAt (w'.alloc (.cells (machC (.pointer (some ⟨WE.heap.size + 1, 0, none⟩)) (Value.iface 90 (.agg #[]))) 55)) WE.heap.size (WE.heap.size + 1) WE.heap.size (.slice none 0 0) (.slice none 0 0) (.slice none 0 0) emptyD /\ Box (w'.alloc (.cells (machC (.pointer (some ⟨WE.heap.size + 1, 0, none⟩)) (Value.iface 90 (.agg #[]))) 55)) (WE.heap.size + 2) 55 (machC (.pointer (some ⟨WE.heap.size + 1, 0, none⟩)) (Value.iface 90 (.agg #[])))) := ⟨HST.out.1.trans (hal.mono HST.out.1.size), ⟨HST.out.2.1.hb.below hal, HST.out.2.1.ar.on hal, HST.out.2.1.hB⟩, bxn⟩
    clear hst hal bxn
    rw [pin S.ha]
    go_simp
    exact S.hK _ _ (chain_step S.hI S.hu S.hs 5 (.pointer (some ⟨w'.heap.size, 0, none⟩)) (by show 5 < 7; decide) rfl S.hp (val_of rfl (by rw [HST.out.2.2])) (S.hI.ph.next 1 5 _ rfl S.h0 (.inr ⟨0, rfl, HB0⟩) (by decide) HNX.out) (by simp only [puts, setAll, List.set_cons_zero, List.set_cons_succ, List.setIfInBounds_toArray]))
   refine SY (fun _ S => ?_) ?_
   ·obtain ⟨⟩ := n7 S.hu
    obtain rfl := S.q 5
    rw [pin S.ha]
    go_simp
    exact S.kL 6
   exact Steps.nil
  ·intro us w7 hus dd hD2 hJ
   obtain ⟨r0, r1, r2, r3, r4, r5, r6, rfl⟩ := len7 hus
   have q1 := hJ.ph.all (fun c hc => hD2 c (by
    have : c = 0 \/ c = 5 := by simpa using hc
    show c < 7
    omega))
   obtain ⟨g1, g2, g3⟩ := q1
   have e6 : r6 = .pointer (some ⟨WE.heap.size + 2, 0, none⟩) := hJ.val 6 _ rfl (hD2 6 (by show 6 < 7; decide))
   subst e6
   have HZ := Veil.mk (And.intro g1 (And.intro g2 g3))
   clear hJ hD2 g1 g2 g3
   simp only [puts, setAll, List.set_cons_zero, List.set_cons_succ, List.setIfInBounds_toArray]
   go_wp2
   go_ret
   exact ⟨_, _, _, rfl, HBE.out.size, (by omega), HZ.out.2.1, HZ.out.2.2, blw2 HBE.out HZ.out.1⟩
theorem lenA6 {α : Type} {us : List α} (h : us.length = 6) : ∃ a0 a1 a2 a3 a4 a5, us = [a0, a1, a2, a3, a4, a5] := by
 match us, h with
 | [a0, a1, a2, a3, a4, a5], _ => exact ⟨a0, a1, a2, a3, a4, a5, rfl⟩
theorem lenA7 {α : Type} {us : List α} (h : us.length = 7) : ∃ a0 a1 a2 a3 a4 a5 a6, us = [a0, a1, a2, a3, a4, a5, a6] := by
 match us, h with
 | [a0, a1, a2, a3, a4, a5, a6], _ => exact ⟨a0, a1, a2, a3, a4, a5, a6, rfl⟩
theorem lenA9 {α : Type} {us : List α} (h : us.length = 9) : ∃ a0 a1 a2 a3 a4 a5 a6 a7 a8, us = [a0, a1, a2, a3, a4, a5, a6, a7, a8] := by
 match us, h with
 | [a0, a1, a2, a3, a4, a5, a6, a7, a8], _ => exact ⟨a0, a1, a2, a3, a4, a5, a6, a7, a8, rfl⟩
theorem lenA10 {α : Type} {us : List α} (h : us.length = 10) : ∃ a0 a1 a2 a3 a4 a5 a6 a7 a8 a9, us = [a0, a1, a2, a3, a4, a5, a6, a7, a8, a9] := by
 match us, h with
 | [a0, a1, a2, a3, a4, a5, a6, a7, a8, a9], _ => exact ⟨a0, a1, a2, a3, a4, a5, a6, a7, a8, a9, rfl⟩
theorem lenA11 {α : Type} {us : List α} (h : us.length = 11) : ∃ a0 a1 a2 a3 a4 a5 a6 a7 a8 a9 a10, us = [a0, a1, a2, a3, a4, a5, a6, a7, a8, a9, a10] := by
 match us, h with
 | [a0, a1, a2, a3, a4, a5, a6, a7, a8, a9, a10], _ => exact ⟨a0, a1, a2, a3, a4, a5, a6, a7, a8, a9, a10, rfl⟩
theorem lenA12 {α : Type} {us : List α} (h : us.length = 12) : ∃ a0 a1 a2 a3 a4 a5 a6 a7 a8 a9 a10 a11, us = [a0, a1, a2, a3, a4, a5, a6, a7, a8, a9, a10, a11] := by
 match us, h with
 | [a0, a1, a2, a3, a4, a5, a6, a7, a8, a9, a10, a11], _ => exact ⟨a0, a1, a2, a3, a4, a5, a6, a7, a8, a9, a10, a11, rfl⟩
theorem lenA13 {α : Type} {us : List α} (h : us.length = 13) : ∃ a0 a1 a2 a3 a4 a5 a6 a7 a8 a9 a10 a11 a12, us = [a0, a1, a2, a3, a4, a5, a6, a7, a8, a9, a10, a11, a12] := by
 match us, h with
 | [a0, a1, a2, a3, a4, a5, a6, a7, a8, a9, a10, a11, a12], _ => exact ⟨a0, a1, a2, a3, a4, a5, a6, a7, a8, a9, a10, a11, a12, rfl⟩
theorem lenA14 {α : Type} {us : List α} (h : us.length = 14) : ∃ a0 a1 a2 a3 a4 a5 a6 a7 a8 a9 a10 a11 a12 a13, us = [a0, a1, a2, a3, a4, a5, a6, a7, a8, a9, a10, a11, a12, a13] := by
 match us, h with
 | [a0, a1, a2, a3, a4, a5, a6, a7, a8, a9, a10, a11, a12, a13], _ => exact ⟨a0, a1, a2, a3, a4, a5, a6, a7, a8, a9, a10, a11, a12, a13, rfl⟩
theorem lenA15 {α : Type} {us : List α} (h : us.length = 15) : ∃ a0 a1 a2 a3 a4 a5 a6 a7 a8 a9 a10 a11 a12 a13 a14, us = [a0, a1, a2, a3, a4, a5, a6, a7, a8, a9, a10, a11, a12, a13, a14] := by
 match us, h with
 | [a0, a1, a2, a3, a4, a5, a6, a7, a8, a9, a10, a11, a12, a13, a14], _ => exact ⟨a0, a1, a2, a3, a4, a5, a6, a7, a8, a9, a10, a11, a12, a13, a14, rfl⟩
theorem lenA16 {α : Type} {us : List α} (h : us.length = 16) : ∃ a0 a1 a2 a3 a4 a5 a6 a7 a8 a9 a10 a11 a12 a13 a14 a15, us = [a0, a1, a2, a3, a4, a5, a6, a7, a8, a9, a10, a11, a12, a13, a14, a15] := by
 match us, h with
 | [a0, a1, a2, a3, a4, a5, a6, a7, a8, a9, a10, a11, a12, a13, a14, a15], _ => exact ⟨a0, a1, a2, a3, a4, a5, a6, a7, a8, a9, a10, a11, a12, a13, a14, a15, rfl⟩
theorem lenA17 {α : Type} {us : List α} (h : us.length = 17) : ∃ a0 a1 a2 a3 a4 a5 a6 a7 a8 a9 a10 a11 a12 a13 a14 a15 a16, us = [a0, a1, a2, a3, a4, a5, a6, a7, a8, a9, a10, a11, a12, a13, a14, a15, a16] := by
 match us, h with
 | [a0, a1, a2, a3, a4, a5, a6, a7, a8, a9, a10, a11, a12, a13, a14, a15, a16], _ => exact ⟨a0, a1, a2, a3, a4, a5, a6, a7, a8, a9, a10, a11, a12, a13, a14, a15, a16, rfl⟩
theorem lenA20 {α : Type} {us : List α} (h : us.length = 20) : ∃ a0 a1 a2 a3 a4 a5 a6 a7 a8 a9 a10 a11 a12 a13 a14 a15 a16 a17 a18 a19, us = [a0, a1, a2, a3, a4, a5, a6, a7, a8, a9, a10, a11, a12, a13, a14, a15, a16, a17, a18, a19] := by
 match us, h with
 | [a0, a1, a2, a3, a4, a5, a6, a7, a8, a9, a10, a11, a12, a13, a14, a15, a16, a17, a18, a19], _ => exact ⟨a0, a1, a2, a3, a4, a5, a6, a7, a8, a9, a10, a11, a12, a13, a14, a15, a16, a17, a18, a19, rfl⟩
theorem lenA21 {α : Type} {us : List α} (h : us.length = 21) : ∃ a0 a1 a2 a3 a4 a5 a6 a7 a8 a9 a10 a11 a12 a13 a14 a15 a16 a17 a18 a19 a20, us = [a0, a1, a2, a3, a4, a5, a6, a7, a8, a9, a10, a11, a12, a13, a14, a15, a16, a17, a18, a19, a20] := by
 match us, h with
 | [a0, a1, a2, a3, a4, a5, a6, a7, a8, a9, a10, a11, a12, a13, a14, a15, a16, a17, a18, a19, a20], _ => exact ⟨a0, a1, a2, a3, a4, a5, a6, a7, a8, a9, a10, a11, a12, a13, a14, a15, a16, a17, a18, a19, a20, rfl⟩
theorem lenA22 {α : Type} {us : List α} (h : us.length = 22) : ∃ a0 a1 a2 a3 a4 a5 a6 a7 a8 a9 a10 a11 a12 a13 a14 a15 a16 a17 a18 a19 a20 a21, us = [a0, a1, a2, a3, a4, a5, a6, a7, a8, a9, a10, a11, a12, a13, a14, a15, a16, a17, a18, a19, a20, a21] := by
 match us, h with
 | [a0, a1, a2, a3, a4, a5, a6, a7, a8, a9, a10, a11, a12, a13, a14, a15, a16, a17, a18, a19, a20, a21], _ => exact ⟨a0, a1, a2, a3, a4, a5, a6, a7, a8, a9, a10, a11, a12, a13, a14, a15, a16, a17, a18, a19, a20, a21, rfl⟩
def pathB (l : List Oper) : List Nat -> Bool
 | a :: b :: t => (match l[a]? with | some o => o.after.any (fun e => Region.binds .any e && e.on == b) | none => false) && pathB l (b :: t)
 | _ => true
section
variable {l : List Oper} {ks : List (Option (Value -> Prop))} {Ph : (Nat -> Bool) -> (Nat -> Value) -> World -> Prop} {d : Nat -> Bool} {us : Nat -> Value} {w : World}
theorem CJ.fwd (h : CJ l ks Ph d us w) : ∀ (p : List Nat) (a z : Nat), pathB l (a :: p) = true -> (a :: p).getLast? = some z -> d a = true -> d z = true
 | [], a, z, _, hz, ha => by
  injection hz with hz
  rw [<- hz]
  exact ha
 | b :: p, a, z, hp, hz, ha => by
  unfold pathB at hp
  rw [Bool.and_eq_true] at hp
  obtain ⟨h1, h2⟩ := hp
  refine CJ.fwd h p b z h2 (by simpa using hz) ?_
  cases ho : l[a]? with
  | none => rw [ho] at h1; cases h1
  | some o =>
   rw [ho] at h1
   have h1 : (o.after.any fun e => Region.binds .any e && e.on == b) = true := h1
   obtain ⟨e, he, h4⟩ := Array.any_eq_true'.1 h1
   simp only [Bool.and_eq_true, beq_iff_eq] at h4
   have h3 := h.done a o ho ha e he h4.1
   rw [h4.2] at h3
   exact h3
theorem CJ.bwd (h : CJ l ks Ph d us w) (p : List Nat) (a z : Nat) (hp : pathB l (a :: p) = true) (hz : (a :: p).getLast? = some z) (hd : d z = false) : d a = false := by
 cases ha : d a with
 | false => rfl
 | true => rw [CJ.fwd h p a z hp hz ha] at hd; cases hd
end
section
variable {cs : List Nat} {St : Nat -> (Nat -> Value) -> World -> Prop} {d : Nat -> Bool} {us : Nat -> Value} {w w' : World}
theorem LPh.btw (h : LPh cs St d us w) (lo hi : Nat) (h1 : lo = 0 \/ ∃ c, cs[lo - 1]? = some c /\ d c = true) (h2 : hi = cs.length \/ ∃ c, cs[hi]? = some c /\ d c = false) : ∃ s, lo <= s /\ s <= hi /\ St s (fun j => us (cs.getD j 1000000)) w := by
 obtain ⟨s, g1, g2, g3⟩ := h
 refine ⟨s, ?_, ?_, g3⟩
 ·rcases h1 with rfl | ⟨c, hc, hd⟩
  ·exact Nat.zero_le _
  ·have := (g2 _ c hc).1 hd
   omega
 ·rcases h2 with rfl | ⟨c, hc, hd⟩
  ·exact g1
  ·rcases Nat.lt_or_ge hi s with hlt | hge
   ·have := (g2 _ c hc).2 hlt
    rw [hd] at this
    cases this
   ·exact hge
theorem LPh.btw1 (h : LPh cs St d us w) (k : Nat) (h1 : k = 0 \/ ∃ c, cs[k - 1]? = some c /\ d c = true) (h2 : k = cs.length \/ ∃ c, cs[k]? = some c /\ d c = false) : St k (fun j => us (cs.getD j 1000000)) w := by
 obtain ⟨s, g1, g2, g3⟩ := h.btw k k h1 h2
 have : s = k := by omega
 subst this
 exact g3
end
abbrev hostV : Value := .iface 90 (.agg #[])
structure MF where
 pr : Nat -> Int
 wo : Int
 it : Vt
 en : Int
 st : Int
 ov : Bool
 dp : Int
 na : Value
 ca : Value
 gh : List (Nat × TypeId × Array Value)
instance : CoeFun MF fun _ => Nat -> Int := ⟨MF.pr⟩
abbrev mf0 (g : Nat -> Int) : MF := ⟨g, 0, (0, 0, ⟨#[]⟩), 0, 0, false, 0, .slice none 0 0, .slice none 0 0, []⟩
abbrev machV (hp : Value) (f : MF) (hv : Value) : Array Value := #[hp, .int .i64 (f 0), .int .i64 (f 1), .int .i64 (f 2), .int .i64 (f 3), .int .i64 (f 4), .int .i64 (f 5), .int .i64 (f 6), .int .i64 (f 7), .int .i64 (f 8), .int .i64 (f 9), .int .i64 (f 10), .int .i64 (f 11), .int .i64 (f 12), .int .i64 (f 13), .int .i64 (f 14), .int .i64 (f 15), .int .i64 (f 16), .int .i64 (f 17), .int .i64 (f 18), .int .i64 (f 19), .int .i64 (f 20), .int .i64 f.wo, .int .i64 f.it.1, .int .i64 f.it.2.1, .string f.it.2.2, hv, .int .i64 4194304, .int .i64 20, .int .i64 100000, .slice none 0 0, .bool false, .slice none 0 0, .int .i64 f.en, .slice none 0 0, .int .i64 f.st, .int .i64 0, .slice none 0 0, .slice none 0 0, .slice none 0 0, .slice none 0 0, .bool f.ov, .int .i64 f.dp, .slice none 0 0, f.na, f.ca, .slice none 0 0, .map none]
theorem machV_0 (hp hv : Value) : machV hp (mf0 (fun _ => 0)) hv = machC hp hv := rfl
theorem machV_at (hp hv : Value) (f : MF) : ∀ k, k < 21 -> (machV hp f hv)[1 + k]? = some (.int .i64 (f k))
 | 0, _ => rfl
 | 1, _ => rfl
 | 2, _ => rfl
 | 3, _ => rfl
 | 4, _ => rfl
 | 5, _ => rfl
 | 6, _ => rfl
 | 7, _ => rfl
 | 8, _ => rfl
 | 9, _ => rfl
 | 10, _ => rfl
 | 11, _ => rfl
 | 12, _ => rfl
 | 13, _ => rfl
 | 14, _ => rfl
 | 15, _ => rfl
 | 16, _ => rfl
 | 17, _ => rfl
 | 18, _ => rfl
 | 19, _ => rfl
 | 20, _ => rfl
 | k + 21, h => absurd h (by omega)
theorem machV_put (hp hv : Value) (f : MF) (x : Int) : ∀ k, k < 21 -> (machV hp f hv).setIfInBounds (1 + k) (.int .i64 x) = machV hp { f with pr := fun j => if j = k then x else f j } hv
 | 0, _ => rfl
 | 1, _ => rfl
 | 2, _ => rfl
 | 3, _ => rfl
 | 4, _ => rfl
 | 5, _ => rfl
 | 6, _ => rfl
 | 7, _ => rfl
 | 8, _ => rfl
 | 9, _ => rfl
 | 10, _ => rfl
 | 11, _ => rfl
 | 12, _ => rfl
 | 13, _ => rfl
 | 14, _ => rfl
 | 15, _ => rfl
 | 16, _ => rfl
 | 17, _ => rfl
 | 18, _ => rfl
 | 19, _ => rfl
 | 20, _ => rfl
 | k + 21, h => absurd h (by omega)
theorem lab_lt {w : World} {k : Nat} {t : TypeId} (h : Lab w k t) : k < w.heap.size := by
 obtain ⟨cs, fr, h⟩ := h
 exact lt_of_block h
def Kp (ts : List TypeId) (w w' : World) : Prop := ∀ k t, Lab w k t -> ts.contains t = false -> w'.heap[k]? = w.heap[k]?
section
variable {ts : List TypeId} {w w1 w2 : World}
theorem Kp.refl : Kp ts w w := fun _ _ _ _ => rfl
theorem Kp.trans (h : Kp ts w w1) (h2 : Kp ts w1 w2) : Kp ts w w2 := fun k t hl ht => by
 have e := h k t hl ht
 obtain ⟨cs, fr, hb⟩ := hl
 exact (h2 k t ⟨cs, fr, e.trans hb⟩ ht).trans e
theorem Kp.of_below (h : Below w.heap.size w w1) : Kp ts w w1 := fun k t hl _ => by
 obtain ⟨cs, fr, hb⟩ := hl
 exact h.block k (lt_of_block hb)
theorem Kp.box (h : Kp ts w w1) {g : Nat} {t : TypeId} {cs : Array Value} (hb : Box w g t cs) (ht : ts.contains t = false) : Box w1 g t cs := (h g t hb.lab ht).trans hb
theorem Kp.put {g : Nat} {t : TypeId} (hb : Lab w g t) (ht : ts.contains t = true) (i : Nat) (u : Value) : Kp ts w (w.setCell ⟨g, i, none⟩ u) := fun k t2 hl h2 => Below.heap_setCell w ⟨g, i, none⟩ u k (fun e => by
 have e : k = g := e
 subst e
 by_cases c : t2 = t
 ·subst c; rw [ht] at h2; cases h2
 ·exact hl.ne hb c rfl)
end
abbrev arT : List TypeId := [187, 138, 3]
abbrev OS := Nat × Array Value
def oty (o : OS) : TypeId := if o.2.size = 3 then 142 else 63
def pty (o : OS) : TypeId := if o.2.size = 3 then 140 else 64
theorem oty_obj {o : OS} (h : o.2.size ≠ 3) : oty o = 63 := if_neg h
theorem pty_obj {o : OS} (h : o.2.size ≠ 3) : pty o = 64 := if_neg h
theorem oty_a (o : OS) : oty o ≠ 187 := by unfold oty; split <;> decide
theorem oty_b (o : OS) : oty o ≠ 138 := by unfold oty; split <;> decide
theorem oty_c (o : OS) : oty o ≠ 3 := by unfold oty; split <;> decide
theorem oty_m (o : OS) : oty o ≠ 55 := by unfold oty; split <;> decide
theorem oty_v (o : OS) : oty o ≠ 28 := by unfold oty; split <;> decide
abbrev mmT : List TypeId := [55, 63, 142, 135, 187, 138, 3]
theorem oty_mem (o : OS) : oty o ∈ mmT := by unfold oty; split <;> decide
structure MM (W : World) (h A m : Nat) (f : MF) (os : List OS) : Prop where
 hp : ∃ cv fv rv, HpAt W A h A cv fv rv ⟨os.map fun o => some (pty o, o.1), [], os.length, []⟩
 mb : Box W m 55 (machV (.pointer (some ⟨h, 0, none⟩)) f hostV)
 ob : ∀ o ∈ os, Box W o.1 (oty o) o.2
 am : A <= m
 al : ∀ o ∈ os, A <= o.1
 nd : (os.map Prod.fst).Nodup
def FO (W : World) (A k : Nat) : Prop := ∃ cv fv rv c, Box W A 187 #[cv, fv, c, rv] /\ AFoot A cv fv rv k
theorem FO.of {W : World} {A B : Nat} {cv fv rv : Value} {d : AD} (h : ArAt W B A cv fv rv d) (k : Nat) : FO W A k ↔ AFoot A cv fv rv k := by
 constructor
 ·rintro ⟨cv', fv', rv', c, hb, hk⟩
  have e := (show W.heap[A]? = _ from h.box).symm.trans hb
  injection e with e
  injection e with e
  have e := congrArg Array.toList e
  injection e with e1 e
  injection e with e2 e
  injection e with _ e
  injection e with e3 _
  subst e1 e2 e3
  exact hk
 ·exact fun hk => ⟨cv, fv, rv, _, h.box, hk⟩
structure Kq (A : Nat) (W W' : World) : Prop where
 blk : ∀ k, k < W.heap.size -> ¬ FO W A k -> W'.heap[k]? = W.heap[k]?
 foot : ∀ k, FO W' A k -> FO W A k \/ W.heap.size <= k
 size : W.heap.size <= W'.heap.size
theorem Kq.trans {A : Nat} {W W1 W2 : World} (h : Kq A W W1) (h2 : Kq A W1 W2) : Kq A W W2 :=
 ⟨fun k hk hn => (h2.blk k (Nat.lt_of_lt_of_le hk h.size) (fun hf => (h.foot k hf).elim hn (fun h9 => by omega))).trans (h.blk k hk hn), fun k hk => (h2.foot k hk).elim (h.foot k) (fun h9 => .inr (Nat.le_trans h.size h9)), Nat.le_trans h.size h2.size⟩
theorem Kq.of_below {A : Nat} {W W1 : World} (hA : A < W.heap.size) (h : Below W.heap.size W W1) : Kq A W W1 :=
 ⟨fun k hk _ => h.block k hk, fun k hk => .inl (by
  obtain ⟨cv, fv, rv, c, hb, hk⟩ := hk
  exact ⟨cv, fv, rv, c, (h.block A hA).symm.trans hb, hk⟩), h.size⟩
theorem Kq.new {A g : Nat} {W W1 : World} (h : Kq A W W1) (hA : A < W.heap.size) (hg : W.heap.size <= g) (i : Nat) (u : Value) : Kq A W (W1.setCell ⟨g, i, none⟩ u) := by
 have hne : ∀ k, k < W.heap.size -> (W1.setCell ⟨g, i, none⟩ u).heap[k]? = W1.heap[k]? := fun k hk => Below.heap_setCell W1 ⟨g, i, none⟩ u k (fun e => by have e : k = g := e; omega)
 refine ⟨fun k hk hn => (hne k hk).trans (h.blk k hk hn), fun k hk => h.foot k ?_, by simpa [World.setCell] using h.size⟩
 obtain ⟨cv, fv, rv, c, hb, hk⟩ := hk
 exact ⟨cv, fv, rv, c, (hne A hA).symm.trans hb, hk⟩
section
variable {W W' : World} {h A m : Nat} {f : MF} {os : List OS}
theorem MM.alt (H : MM W h A m f os) : A < W.heap.size := by
 obtain ⟨cv, fv, rv, hp⟩ := H.hp
 exact hp.ar.box.lt
theorem MM.on (H : MM W h A m f os) (hb : Below W.heap.size W W') : MM W' h A m f os := by
 obtain ⟨⟨cv, fv, rv, hp⟩, mb, ob, am, al, nd⟩ := H
 exact ⟨⟨cv, fv, rv, hp.hb.below hb, hp.ar.on hb, hp.hB⟩, mb.below hb, fun o ho => (ob o ho).below hb, am, al, nd⟩
theorem MM.make (H : MM W h A m f os) (cl proto : Int) (hl : os.length < 1000000) : Calls Tryz.prog 31 #[.pointer (some ⟨h, 0, none⟩), .int .i64 cl, .int .i64 proto] W fun e w' => e = .returned (.tuple #[.int .i64 ((os.length : Int) + 1), .pointer (some ⟨W.heap.size, 0, none⟩)]) /\ MM w' h A m f (os ++ [(W.heap.size, obj0 cl proto)]) /\ Below A W w' /\ Kp arT W w' /\ Kq A W w' := by
 obtain ⟨⟨cv, fv, rv, hp⟩, mb, ob, am, al, nd⟩ := H
 refine (heap_make hp cl proto rfl (by show os.length < _; omega) (by rw [List.length_map]; omega)).mono ?_
 rintro e w' ⟨he, hbo, ht, cv', fv', rv', hp', hF⟩
 rw [show (⟨os.map fun o => some (pty o, o.1), [], os.length, []⟩ : AD).cells.length = os.length from List.length_map ..] at he
 have keep : ∀ b (t : TypeId) cs, Box W b t cs -> t ≠ 187 -> t ≠ 138 -> t ≠ 3 -> Box w' b t cs := fun b t cs hx e1 e2 e3 => hx.touch ht (AFoot.lab hp.ar hx.lab e1 e2 e3)
 refine ⟨he, ⟨⟨cv', fv', rv', ?_⟩, keep _ _ _ mb (by decide) (by decide) (by decide), fun o ho => ?_, am, fun o ho => ?_, ?_⟩, ht.below (Nat.le_of_lt (Nat.lt_of_le_of_lt hp.ar.ha hp.ar.box.lt)) (fun k hk => (AFoot.lt hp.ar hk).1), fun k t hl ht2 => ht.block k (lab_lt hl) (AFoot.lab hp.ar hl (fun e => (by subst e; cases ht2)) (fun e => (by subst e; cases ht2)) (fun e => (by subst e; cases ht2))), ⟨fun k hk hn => ht.block k hk (fun h9 => hn ((FO.of hp.ar k).2 h9)), fun k hk => (hF k ((FO.of hp'.ar k).1 hk)).imp (FO.of hp.ar k).2 id, ht.size⟩⟩
 ·rw [List.map_append, List.length_append]
  exact hp'
 ·rcases List.mem_append.1 ho with h9 | h9
  ·exact keep _ _ _ (ob o h9) (oty_a o) (oty_b o) (oty_c o)
  ·rw [List.mem_singleton.1 h9]
   exact hbo
 ·rcases List.mem_append.1 ho with h9 | h9
  ·exact al o h9
  ·rw [List.mem_singleton.1 h9]
   exact Nat.le_of_lt (Nat.lt_of_le_of_lt am mb.lt)
 ·rw [List.map_append, List.nodup_append]
  refine ⟨nd, by simp, fun x hx y hy e => ?_⟩
  obtain ⟨o, ho, rfl⟩ := List.mem_map.1 hx
  have := (ob o ho).lt
  have : y = W.heap.size := by simpa using hy
  omega
theorem MM.obj (H : MM W h A m f os) (i : Nat) (o : OS) (ho : os[i]? = some o) (h3 : o.2.size ≠ 3) : Calls Tryz.prog 32 #[.pointer (some ⟨h, 0, none⟩), .int .i64 ((i : Int) + 1)] W fun e w' => e = .returned (.pointer (some ⟨o.1, 0, none⟩)) /\ w' = W := by
 obtain ⟨⟨cv, fv, rv, hp⟩, mb, ob, am, al, nd⟩ := H
 refine obj_some hp _ o.1 ?_
 have hi : i < os.length := (List.getElem?_eq_some_iff.1 ho).1
 unfold AD.get
 rw [if_pos ⟨by omega, by show (i : Int) + 1 <= ((os.map _).length : Nat); rw [List.length_map]; omega⟩, show ((i : Int) + 1 - 1).toNat = i by omega]
 show (os.map _)[i]?.getD none = _
 rw [List.getElem?_map, ho]
 show some (pty o, o.1) = _
 rw [pty_obj h3]
end
theorem cell_of_row2 (g i : Nat) : (⟨g, 0, none⟩ : Addr).add i = ⟨g, i, none⟩ := by
 unfold Addr.add; split
 ·simp [*]
 ·simp
def flatV (l : List Vt) : List Value := l.flatMap fun v => [.int .i64 v.1, .int .i64 v.2.1, .string v.2.2]
theorem flatV_len (l : List Vt) : (flatV l).length = l.length * 3 := by
 induction l with
 | nil => rfl
 | cons a r ih => show (_ :: _ :: _ :: flatV r).length = _; simp only [List.length_cons, ih]; omega
theorem flatV_at : ∀ (l : List Vt) (i : Nat) (v : Vt), l[i]? = some v -> (flatV l)[i * 3]? = some (.int .i64 v.1) /\ (flatV l)[i * 3 + 1]? = some (.int .i64 v.2.1) /\ (flatV l)[i * 3 + 2]? = some (.string v.2.2)
 | [], i, v, h => by cases h
 | a :: r, 0, v, h => by
  have h : some a = some v := h
  injection h with h
  subst h
  exact ⟨rfl, rfl, rfl⟩
 | a :: r, i + 1, v, h => by
  have := flatV_at r i v h
  rw [show (i + 1) * 3 = i * 3 + 3 by omega, show i * 3 + 3 + 1 = (i * 3 + 1) + 3 by omega, show i * 3 + 3 + 2 = (i * 3 + 2) + 3 by omega]
  exact this
theorem flatV_one (l : List Vt) : ∀ v ∈ flatV l, v.oneCell' = true := fun v hv => by
 obtain ⟨x, -, hx⟩ := List.mem_flatMap.1 hv
 have : v = .int .i64 x.1 \/ v = .int .i64 x.2.1 \/ v = .string x.2.2 := by simpa using hx
 rcases this with rfl | rfl | rfl <;> rfl
def RowV (W : World) (ev : Value) (l : List Vt) : Prop := ∃ ao cap, ev = .slice ao l.length cap /\ l.length <= cap /\ (ao = none -> l = [] /\ cap = 0) /\ ∀ ad, ao = some ad -> ∃ g, ad = ⟨g, 0, none⟩ /\ Lab W g 28 /\ ∀ j u, (flatV l)[j]? = some u -> W.cell? ⟨g, j, none⟩ = some u
theorem cell_blk {w w' : World} {k : Nat} (h : w'.heap[k]? = w.heap[k]?) (j : Nat) : w'.cell? ⟨k, j, none⟩ = w.cell? ⟨k, j, none⟩ := by
 simp only [World.cell?, h]
theorem Kp.lab {ts : List TypeId} {w w1 : World} (h : Kp ts w w1) {g : Nat} {t : TypeId} (hl : Lab w g t) (ht : ts.contains t = false) : Lab w1 g t := by
 have e := h g t hl ht
 obtain ⟨cs, fr, hb⟩ := hl
 exact ⟨cs, fr, e.trans hb⟩
theorem RowV.kp {ts : List TypeId} {W W' : World} {ev : Value} {l : List Vt} (h : RowV W ev l) (hk : Kp ts W W') (ht : ts.contains 28 = false) : RowV W' ev l := by
 obtain ⟨ao, cap, e, h1, h2, h3⟩ := h
 refine ⟨ao, cap, e, h1, h2, fun ad had => ?_⟩
 obtain ⟨g, e2, hl, hc⟩ := h3 ad had
 exact ⟨g, e2, hk.lab hl ht, fun j u hj => by rw [cell_blk (hk g _ hl ht)]; exact hc j u hj⟩
theorem RowV.on {W W' : World} {ev : Value} {l : List Vt} (h : RowV W ev l) (hb : Below W.heap.size W W') : RowV W' ev l := h.kp (ts := []) (Kp.of_below hb) rfl
theorem RowV.put {W : World} {ev : Value} {l : List Vt} (h : RowV W ev l) (g i : Nat) (u : Value) (hg : ∀ ad n cap, ev = .slice (some ad) n cap -> ad.block ≠ g) : RowV (W.setCell ⟨g, i, none⟩ u) ev l := by
 obtain ⟨ao, cap, e, h1, h2, h3⟩ := h
 refine ⟨ao, cap, e, h1, h2, fun ad had => ?_⟩
 obtain ⟨g2, e2, hl, hc⟩ := h3 ad had
 have hne : g2 ≠ g := by
  have := hg ad l.length cap (by rw [e, had])
  rw [e2] at this
  exact this
 have hb := Below.heap_setCell W ⟨g, i, none⟩ u g2 hne
 refine ⟨g2, e2, ?_, fun j u hj => by rw [cell_blk hb]; exact hc j u hj⟩
 obtain ⟨cs, fr, hx⟩ := hl
 exact ⟨cs, fr, hb.trans hx⟩
theorem RowV.nil (W : World) : RowV W (.slice none 0 0) [] := ⟨none, 0, rfl, Nat.le_refl _, fun _ => ⟨rfl, rfl⟩, fun ad h => by cases h⟩
theorem RowV.own {W : World} {B : Nat} {v : Value} {l : List Vt} (h : W.ownsRow B 28 3 v l.length (flatV l)) : RowV W v l := by
 rcases h.2 with ⟨rfl, h0⟩ | ⟨g, cap, cur, rfl, hB, hb, hc, _⟩
 ·have : l = [] := List.length_eq_zero_iff.1 h0
  subst this
  exact RowV.nil W
 ·refine ⟨_, cap, rfl, hc, fun h => (by cases h), fun ad had => ⟨g, by injection had with had; exact had.symm, ⟨cur, _, hb⟩, fun j u hj => ?_⟩⟩
  have hjl : j < (flatV l).length := (List.getElem?_eq_some_iff.1 hj).1
  rw [flatV_len] at hjl
  rw [h.cellAt j hjl]
  exact hj
theorem RowV.box {W : World} {g : Nat} (l : List Vt) (n : Nat) (hn : l.length = n) (h : Box W g 28 (flatV l).toArray) : RowV W (.slice (some ⟨g, 0, none⟩) n n) l := by
 subst hn
 refine ⟨_, _, rfl, Nat.le_refl _, fun h => (by cases h), fun ad had => ⟨g, by injection had with had; exact had.symm, h.lab, fun j u hj => ?_⟩⟩
 rw [h.at_ j]
 simpa using hj
theorem Tryz.infoW : (Tryz.prog.info? 28).map (fun i => (i.zero, i.size, i.bytes)) = some (some (.agg #[.int .i64 0, .int .i64 0, .string ⟨#[]⟩]), 3, 32) := by kernel_rfl
section
variable {W W' : World} {h A m : Nat} {f : MF} {os : List OS}
theorem MM.proto_any (H : MM W h A m f os) (k : Nat) (hk : k < 21) : Calls Tryz.prog 37 #[.pointer (some ⟨m, 0, none⟩), .int .i64 (k : Int)] W fun e w' => e = .returned (.int .i64 (f k)) /\ w' = W := by
 have c0 : W.cell? ⟨m, 1 + k, none⟩ = some (.int .i64 (f k)) := by rw [H.mb.at_ (1 + k)]; exact machV_at _ _ _ k hk
 have h0 : (0 : Int) <= (k : Int) := by omega
 have h1 : (k : Int) < 21 := by omega
 clear H
 go_enter Tryz.func37, Tryz.ntmps37
 go_wp2
 go_ret
 exact ⟨rfl, rfl⟩
theorem MM.create (H : MM W h A m f os) (cl proto : Int) (hl : os.length < 1000000) : Calls Tryz.prog 36 #[.pointer (some ⟨m, 0, none⟩), .int .i64 cl, .int .i64 proto] W fun e w' => e = .returned (.tuple #[.int .i64 ((os.length : Int) + 1), .pointer (some ⟨W.heap.size, 0, none⟩)]) /\ MM w' h A m f (os ++ [(W.heap.size, obj0 cl proto)]) /\ Below A W w' /\ Kp arT W w' /\ Kq A W w' := by
 have c0 : W.cell? ⟨m, 0, none⟩ = some (.pointer (some ⟨h, 0, none⟩)) := H.mb.at_ 0
 have HM := Veil.mk (H.make cl proto hl)
 clear H
 go_enter Tryz.func36, Tryz.ntmps36
 go_wp2_with (first | (go_at_call 31; ((with_reducible refine HM.out.mono ?_); rintro e w9 ⟨rfl, hm9, hb9, hk9, hq9⟩)))
 refine bodyPost_ret (v := .tuple #[.int .i64 ((os.length : Int) + 1), .pointer (some ⟨W.heap.size, 0, none⟩)]) (by simp [results, Tryz.results36, go_sem]) rfl ⟨rfl, hm9, hb9, hk9, hq9⟩
end
theorem object_mk (r : Int) (w : World) : Calls Tryz.prog 23 #[.int .i64 r] w fun e w' => e = .returned (valV (9, r, ⟨#[]⟩)) /\ Below w.heap.size w w' := by
 obtain ⟨vb, hvb⟩ : ∃ vb, w.heap.size = vb := ⟨_, rfl⟩
 obtain ⟨W0, hW0⟩ : ∃ W0, w.alloc (.cells #[.int .i64 0, .int .i64 0, .string ⟨#[]⟩] 28) = W0 := ⟨_, rfl⟩
 have b1 := Box.new w 28 #[.int .i64 0, .int .i64 0, .string ⟨#[]⟩]
 have bb : Below w.heap.size w (w.alloc (.cells #[.int .i64 0, .int .i64 0, .string ⟨#[]⟩] 28)) := (Below.refl _ _).alloc (Nat.le_refl _) _
 rw [hW0] at b1 bb
 rw [hvb] at b1 bb ⊢
 have HW0 := Veil.mk (And.intro hW0 hvb)
 have HBB := Veil.mk (And.intro bb b1)
 have z0 : W0.cell? ⟨vb, 0, none⟩ = some (.int .i64 0) := b1.at_ 0
 have z1 : W0.cell? ⟨vb, 1, none⟩ = some (.int .i64 0) := b1.at_ 1
 have z2 : W0.cell? ⟨vb, 2, none⟩ = some (.string ⟨#[]⟩) := b1.at_ 2
 have f0 := b1.free 0
 have f1 := b1.free 1
 have f2 := b1.free 2
 clear hW0 hvb b1 bb
 go_enter Tryz.func23, Tryz.ntmps23
 go_upto_region 1 with (fail)
 rw [HW0.out.1, HW0.out.2]
 go_wp2
 have hr3 := ((HBB.out.2.put 0 (.int .i64 9)).put 1 (.int .i64 r)).put 2 (.string ⟨#[]⟩)
 have y0 := hr3.at_ 0
 have y1 := hr3.at_ 1
 have y2 := hr3.at_ 2
 exact bodyPost_ret (v := valV (9, r, ⟨#[]⟩)) (by simp [results, Tryz.results23, go_sem, y0, y1, y2]) rfl ⟨rfl, ((HBB.out.1.setCell (p := ⟨vb, 0, none⟩) (Nat.le_refl _) _).setCell (p := ⟨vb, 1, none⟩) (Nat.le_refl _) _).setCell (p := ⟨vb, 2, none⟩) (Nat.le_refl _) _⟩
theorem isobj_any (x : Vt) (w : World) : Calls Tryz.prog 46 #[valV x] w fun e w' => e = .returned (.bool (x.1 == 9)) /\ Below w.heap.size w w' := by
 have b1 := Box.new w 28 #[.int .i64 x.1, .int .i64 x.2.1, .string x.2.2]
 have bb : Below w.heap.size w (w.alloc (.cells #[.int .i64 x.1, .int .i64 x.2.1, .string x.2.2] 28)) := (Below.refl _ _).alloc (Nat.le_refl _) _
 obtain ⟨kb, hkb⟩ : ∃ kb, w.heap.size = kb := ⟨_, rfl⟩
 obtain ⟨W0, hW0⟩ : ∃ W0, w.alloc (.cells #[.int .i64 x.1, .int .i64 x.2.1, .string x.2.2] 28) = W0 := ⟨_, rfl⟩
 rw [hW0] at b1 bb
 have HW0 := Veil.mk (And.intro hW0 hkb)
 rw [hkb] at b1
 have HBB := Veil.mk (And.intro bb b1)
 have x0 : W0.cell? ⟨kb, 0, none⟩ = some (.int .i64 x.1) := b1.at_ 0
 have x1 : W0.cell? ⟨kb, 1, none⟩ = some (.int .i64 x.2.1) := b1.at_ 1
 have x2 : W0.cell? ⟨kb, 2, none⟩ = some (.string x.2.2) := b1.at_ 2
 clear hW0 hkb b1 bb
 go_enter Tryz.func46, Tryz.ntmps46
 go_upto_region 1 with (fail)
 rw [HW0.out.1, HW0.out.2]
 go_wp2
 go_ret
 exact ⟨rfl, HBB.out.1⟩
theorem ref_9 (x : Vt) (hx : x.1 = 9) (w : World) : Calls Tryz.prog 47 #[valV x] w fun e w' => e = .returned (.int .i64 x.2.1) /\ Below w.heap.size w w' := by
 have b1 := Box.new w 28 #[.int .i64 x.1, .int .i64 x.2.1, .string x.2.2]
 have bb : Below w.heap.size w (w.alloc (.cells #[.int .i64 x.1, .int .i64 x.2.1, .string x.2.2] 28)) := (Below.refl _ _).alloc (Nat.le_refl _) _
 obtain ⟨kb, hkb⟩ : ∃ kb, w.heap.size = kb := ⟨_, rfl⟩
 obtain ⟨W0, hW0⟩ : ∃ W0, w.alloc (.cells #[.int .i64 x.1, .int .i64 x.2.1, .string x.2.2] 28) = W0 := ⟨_, rfl⟩
 rw [hW0] at b1 bb
 have HW0 := Veil.mk (And.intro hW0 hkb)
 rw [hkb] at b1
 have HBB := Veil.mk (And.intro bb b1)
 have x0 : W0.cell? ⟨kb, 0, none⟩ = some (.int .i64 x.1) := b1.at_ 0
 have x1 : W0.cell? ⟨kb, 1, none⟩ = some (.int .i64 x.2.1) := b1.at_ 1
 have x2 : W0.cell? ⟨kb, 2, none⟩ = some (.string x.2.2) := b1.at_ 2
 clear hW0 hkb b1 bb
 rw [hx] at x0
 clear hx
 go_enter Tryz.func47, Tryz.ntmps47
 go_upto_region 1 with (fail)
 rw [HW0.out.1, HW0.out.2]
 go_wp2
 go_ret
 exact ⟨rfl, HBB.out.1⟩
theorem of_no (h : Nat) (x : Vt) (hx : (x.1 == 9) = false) (w : World) : Calls Tryz.prog 14 #[.pointer (some ⟨h, 0, none⟩), valV x] w fun e w' => e = .returned (.pointer none) /\ Below w.heap.size w w' := by
 have HI := Veil.mk (fun w => isobj_any x w)
 rw [hx] at HI
 have b1 := Box.new w 28 #[.int .i64 x.1, .int .i64 x.2.1, .string x.2.2]
 have bb : Below w.heap.size w (w.alloc (.cells #[.int .i64 x.1, .int .i64 x.2.1, .string x.2.2] 28)) := (Below.refl _ _).alloc (Nat.le_refl _) _
 obtain ⟨kb, hkb⟩ : ∃ kb, w.heap.size = kb := ⟨_, rfl⟩
 obtain ⟨W0, hW0⟩ : ∃ W0, w.alloc (.cells #[.int .i64 x.1, .int .i64 x.2.1, .string x.2.2] 28) = W0 := ⟨_, rfl⟩
 rw [hW0] at b1 bb
 have HW0 := Veil.mk (And.intro hW0 hkb)
 rw [hkb] at b1
 have HBB := Veil.mk (And.intro bb b1)
 have x0 : W0.cell? ⟨kb, 0, none⟩ = some (.int .i64 x.1) := b1.at_ 0
 have x1 : W0.cell? ⟨kb, 1, none⟩ = some (.int .i64 x.2.1) := b1.at_ 1
 have x2 : W0.cell? ⟨kb, 2, none⟩ = some (.string x.2.2) := b1.at_ 2
 clear hW0 hkb b1 bb
 clear hx
 go_enter Tryz.func14, Tryz.ntmps14
 go_upto_region 1 with (fail)
 rw [HW0.out.1, HW0.out.2]
 go_wp2_with (go_at_call 46; ((with_reducible refine (HI.out _).mono ?_); rintro e w4 ⟨rfl, h4⟩))
 go_ret
 exact ⟨rfl, HBB.out.1.trans (h4.mono HBB.out.1.size)⟩
theorem of_yes (h o : Nat) (x : Vt) (hx : x.1 = 9) (w : World) (HO : Veil (∀ W, Below w.heap.size w W -> Calls Tryz.prog 32 #[.pointer (some ⟨h, 0, none⟩), .int .i64 x.2.1] W fun e9 w' => e9 = .returned (.pointer (some ⟨o, 0, none⟩)) /\ w' = W)) : Calls Tryz.prog 14 #[.pointer (some ⟨h, 0, none⟩), valV x] w fun e w' => e = .returned (.pointer (some ⟨o, 0, none⟩)) /\ Below w.heap.size w w' := by
 have HI := Veil.mk (fun w => isobj_any x w)
 rw [show (x.1 == 9) = true by rw [hx]; rfl] at HI
 have HR := Veil.mk (fun w => ref_9 x hx w)
 have b1 := Box.new w 28 #[.int .i64 x.1, .int .i64 x.2.1, .string x.2.2]
 have bb : Below w.heap.size w (w.alloc (.cells #[.int .i64 x.1, .int .i64 x.2.1, .string x.2.2] 28)) := (Below.refl _ _).alloc (Nat.le_refl _) _
 obtain ⟨kb, hkb⟩ : ∃ kb, w.heap.size = kb := ⟨_, rfl⟩
 obtain ⟨W0, hW0⟩ : ∃ W0, w.alloc (.cells #[.int .i64 x.1, .int .i64 x.2.1, .string x.2.2] 28) = W0 := ⟨_, rfl⟩
 rw [hW0] at b1 bb
 have HW0 := Veil.mk (And.intro hW0 hkb)
 rw [hkb] at b1
 have HBB := Veil.mk (And.intro bb b1)
 have x0 : W0.cell? ⟨kb, 0, none⟩ = some (.int .i64 x.1) := b1.at_ 0
 have x1 : W0.cell? ⟨kb, 1, none⟩ = some (.int .i64 x.2.1) := b1.at_ 1
 have x2 : W0.cell? ⟨kb, 2, none⟩ = some (.string x.2.2) := b1.at_ 2
 clear hW0 hkb b1 bb
 clear hx
 go_enter Tryz.func14, Tryz.ntmps14
 go_upto_region 1 with (fail)
 rw [HW0.out.1, HW0.out.2]
 go_upto_region 3 with (go_at_call 46; ((with_reducible refine (HI.out _).mono ?_); rintro e w4 ⟨rfl, h4⟩))
 have HB4 := Veil.mk (HBB.out.1.trans (h4.mono HBB.out.1.size))
 have b4 := HBB.out.2.below h4
 have y0 : w4.cell? ⟨kb, 0, none⟩ = some (.int .i64 x.1) := b4.at_ 0
 have y1 : w4.cell? ⟨kb, 1, none⟩ = some (.int .i64 x.2.1) := b4.at_ 1
 have y2 : w4.cell? ⟨kb, 2, none⟩ = some (.string x.2.2) := b4.at_ 2
 clear h4 b4 x0 x1 x2
 go_wp2_with (first | (go_at_call 47; ((with_reducible refine (HR.out _).mono ?_); rintro e w5 ⟨rfl, h5⟩; have HB5 := Veil.mk (HB4.out.trans (h5.mono HB4.out.size)); clear h5)) | (go_at_call 32; ((with_reducible refine (HO.out _ HB5.out).mono ?_); rintro e w6 ⟨rfl, h6⟩; subst w6)))
 go_ret
 exact ⟨rfl, HB5.out⟩
theorem Kp.new {ts : List TypeId} {w w1 : World} (h : Kp ts w w1) {g : Nat} (hg : w.heap.size <= g) (i : Nat) (u : Value) : Kp ts w (w1.setCell ⟨g, i, none⟩ u) := fun k t hl ht => (Below.heap_setCell w1 ⟨g, i, none⟩ u k (fun e => by
 have e : k = g := e
 have := lab_lt hl
 omega)).trans (h k t hl ht)
section
variable {W W' : World} {h A m : Nat} {f : MF} {os : List OS}
theorem MM.of_ (H : MM W h A m f os) (i : Nat) (o : OS) (ho : os[i]? = some o) (h3 : o.2.size ≠ 3) (s : ByteArray) : Calls Tryz.prog 14 #[.pointer (some ⟨h, 0, none⟩), valV (9, (i : Int) + 1, s)] W fun e w' => e = .returned (.pointer (some ⟨o.1, 0, none⟩)) /\ Below W.heap.size W w' :=
 of_yes h o.1 (9, (i : Int) + 1, s) rfl W ⟨fun _ hb => (H.on hb).obj i o ho h3⟩
theorem own_kp {ts : List TypeId} {w w' : World} {B n size : Nat} {v : Value} {xs : List Value} {e : TypeId} (h : w.ownsRow B e size v n xs) (hk : Kp ts w w') (ht : ts.contains e = false) : w'.ownsRow B e size v n xs := by
 refine ⟨h.1, ?_⟩
 rcases h.2 with h2 | ⟨g, cap, cur, e1, e2, e3, e4⟩
 ·exact .inl h2
 ·exact .inr ⟨g, cap, cur, e1, e2, (hk g e ⟨cur, _, e3⟩ ht).trans e3, e4⟩
theorem MM.kp {ts : List TypeId} (H : MM W h A m f os) (hk : Kp ts W W') (ht : ∀ t ∈ mmT, ts.contains t = false) : MM W' h A m f os := by
 obtain ⟨⟨cv, fv, rv, hp⟩, mb, ob, am, al, nd⟩ := H
 refine ⟨⟨cv, fv, rv, hk.box hp.hb (ht _ (by simp)), ⟨hk.box hp.ar.box (ht _ (by simp)), own_kp hp.ar.co hk (ht _ (by simp)), own_kp hp.ar.fo hk (ht _ (by simp)), own_kp hp.ar.ro hk (ht _ (by simp)), hp.ar.ap, hp.ar.ha⟩, hp.hB⟩, hk.box mb (ht _ (by simp)), fun o ho => hk.box (ob o ho) (ht _ (oty_mem o)), am, al, nd⟩
theorem MM.setObj {b : Nat} {cs : Array Value} {os1 os2 : List OS} (H : MM W h A m f (os1 ++ (b, cs) :: os2)) (hs : cs.size ≠ 3) (j : Nat) (u : Value) : MM (W.setCell ⟨b, j, none⟩ u) h A m f (os1 ++ (b, cs.setIfInBounds j u) :: os2) := by
 obtain ⟨⟨cv, fv, rv, hp⟩, mb, ob, am, al, nd⟩ := H
 have hb : Box W b 63 cs := by have := ob (b, cs) (by simp); rwa [oty_obj hs] at this
 have hs2 : (cs.setIfInBounds j u).size ≠ 3 := by simpa using hs
 have ht : Touch (fun k => k = b) W (W.setCell ⟨b, j, none⟩ u) := Touch.put (S := fun k => k = b) rfl _ _
 have nd2 : ∀ o ∈ os1 ++ os2, o.1 ≠ b := fun o ho e => by
  rw [List.map_append, List.map_cons] at nd
  obtain ⟨-, n2, n3⟩ := List.nodup_append.1 nd
  have n2 := (List.nodup_cons.1 n2).1
  rcases List.mem_append.1 ho with h9 | h9
  ·exact n3 o.1 (List.mem_map.2 ⟨o, h9, rfl⟩) b (by simp) e
  ·exact n2 (List.mem_map.2 ⟨o, h9, e⟩)
 refine ⟨⟨cv, fv, rv, ?_⟩, mb.touch ht (fun e => mb.lab.ne hb.lab (by decide) e), fun o ho => ?_, am, fun o ho => ?_, ?_⟩
 ·have e1 : ((os1 ++ (b, cs.setIfInBounds j u) :: os2).map fun o => some (pty o, o.1)) = ((os1 ++ (b, cs) :: os2).map fun o => some (pty o, o.1)) := by simp [pty]
  have e2 : (os1 ++ (b, cs.setIfInBounds j u) :: os2).length = (os1 ++ (b, cs) :: os2).length := by simp
  rw [e1, e2]
  refine ⟨hp.hb.touch ht (fun e => hp.hb.lab.ne hb.lab (by decide) e), hp.ar.touch ht (fun k hk e => ?_), hp.hB⟩
  subst e
  exact AFoot.lab hp.ar hb.lab (by decide) (by decide) (by decide) hk
 ·have : o = (b, cs.setIfInBounds j u) \/ o ∈ os1 ++ os2 := by
   simp only [List.mem_append, List.mem_cons] at ho ⊢
   rcases ho with h9 | h9 | h9 <;> simp [h9]
  rcases this with rfl | h9
  ·rw [oty_obj hs2]; exact hb.put j u
  ·refine (ob o ?_).touch ht (nd2 o h9)
   simp only [List.mem_append, List.mem_cons] at h9 ⊢
   rcases h9 with h9 | h9 <;> simp [h9]
 ·have : o.1 = b \/ o ∈ os1 ++ os2 := by
   simp only [List.mem_append, List.mem_cons] at ho ⊢
   rcases ho with h9 | h9 | h9 <;> simp [h9]
  rcases this with e | h9
  ·rw [e]; exact al (b, cs) (by simp)
  ·refine al o ?_
   simp only [List.mem_append, List.mem_cons] at h9 ⊢
   rcases h9 with h9 | h9 <;> simp [h9]
 ·have e1 : (os1 ++ (b, cs.setIfInBounds j u) :: os2).map Prod.fst = (os1 ++ (b, cs) :: os2).map Prod.fst := by simp
  rw [e1]
  exact nd
end
theorem define_new {w : World} {B o : Nat} {cl proto : Int} {pv ev fn : Value} {kd : KD} {F : Nat -> Prop} {O : List En} (hb : Box w o 63 (objF cl proto false pv ev fn kd)) (hp : PrAt B w pv F O) (hB : B <= w.heap.size) (hn : O.length < 40000) (fl : Int) (k v : Vt) (hc : NE cl k) (hk : k.2.2.size <= 1000) (HLK : ∃ v0, lookO O (keyT k) = (v0, 0, false)) :
  Calls Tryz.prog 72 #[.pointer (some ⟨o, 0, none⟩), valV k, valV v, .int .i64 fl] w fun e w' => e = .returned (.bool true) /\ ∃ pv' F', Box w' o 63 (objF cl proto false pv' ev fn kd) /\ PrAt B w' pv' F' (putO (O, []) (keyT k) v fl).1 /\ Touch (fun b => b = o \/ F b) w w' /\ ∀ b, F' b -> F b \/ w.heap.size <= b := by
 rcases hp with ⟨rfl, rfl, rfl⟩ | ⟨t, rfl, hT⟩
 ·exact define_nil hb hB fl k v hc hk
 ·exact define_more hb hT hn fl k v hc hk HLK
structure TO where
 b : Nat
 cl : Int
 proto : Int
 pv : Value
 ev : Value
 fn : Value
 kd : KD
 F : Nat -> Prop
 O : List En
def TO.os (t : TO) : OS := if t.cl = 100 then (t.b, #[.int .i64 t.proto, .int .i64 t.kd.k, t.fn]) else (t.b, objF t.cl t.proto t.kd.cs t.pv t.ev t.fn t.kd)
theorem TO.os_b (t : TO) : t.os.1 = t.b := by unfold TO.os; split <;> rfl
theorem TO.os_obj {t : TO} (h : (t.cl == 100) = false) : t.os = (t.b, objF t.cl t.proto t.kd.cs t.pv t.ev t.fn t.kd) := if_neg (by simpa using h)
abbrev TO.sym (b : Nat) (v : Vt) : TO := ⟨b, 100, v.1, .pointer none, .nilIface, .string v.2.2, kdI v.2.1, fun _ => False, []⟩
abbrev TO.plain (b : Nat) (cl proto : Int) (ev : Value) : TO := ⟨b, cl, proto, .pointer none, ev, .nilIface, kd0, fun _ => False, []⟩
abbrev kvL : List TypeId := [28, 30, 113, 9, 25]
def GhAt (W : World) (h A m : Nat) (ts : List TO) (q : Nat × TypeId × Array Value) : Prop := Box W q.1 q.2.1 q.2.2 /\ q.2.1 ∉ kvL /\ ¬ FO W A q.1 /\ q.1 ≠ h /\ q.1 ≠ m /\ ∀ t ∈ ts, ¬ t.F q.1 /\ q.1 ≠ t.b
structure MP (W : World) (h A m : Nat) (f : MF) (ts : List TO) : Prop where
 mm : MM W h A m f (ts.map TO.os)
 pr : ∀ t ∈ ts, PrAt A W t.pv t.F t.O
 sep : ∀ t ∈ ts, ∀ k, t.F k -> ¬ FO W A k /\ k ≠ h /\ k ≠ m /\ ∀ t' ∈ ts, k ≠ t'.b
 dis : ∀ (i j : Nat) ti tj, ts[i]? = some ti -> ts[j]? = some tj -> i ≠ j -> ∀ k, ti.F k -> ¬ tj.F k
 gi : ∀ q ∈ f.gh, GhAt W h A m ts q
section
variable {W W' : World} {h A m : Nat} {f : MF} {os : List OS} {ts ts1 ts2 : List TO}
structure Bk (A : Nat) (W W' : World) : Prop where
 bel : Below A W W'
 kv : ∀ k e, e ∈ kvL -> Lab W k e -> W'.heap[k]? = W.heap[k]?
theorem Bk.trans {A : Nat} {W W1 W2 : World} (h : Bk A W W1) (h2 : Bk A W1 W2) : Bk A W W2 :=
 ⟨h.bel.trans h2.bel, fun k e9 he hl => by
  have e := h.kv k e9 he hl
  obtain ⟨cs, fr, hb⟩ := hl
  exact (h2.kv k e9 he ⟨cs, fr, e.trans hb⟩).trans e⟩
theorem Bk.of_below {A : Nat} {W W1 : World} (hA : A <= W.heap.size) (h : Below W.heap.size W W1) : Bk A W W1 := ⟨h.mono hA, fun k _ _ hl => h.block k (lab_lt hl)⟩
theorem Bk.of_kp {A : Nat} {W W1 : World} (h : Below A W W1) (hk : Kp arT W W1) : Bk A W W1 := ⟨h, fun k e he hl => hk k _ hl ((by decide : ∀ e ∈ kvL, arT.contains e = false) e he)⟩
theorem Bk.box {A : Nat} {W W1 : World} (h : Bk A W W1) {g : Nat} {cs : Array Value} (hb : Box W g 28 cs) : Box W1 g 28 cs := (h.kv g _ (by decide) hb.lab).trans hb
theorem Bk.boxE {A : Nat} {W W1 : World} (h : Bk A W W1) {g : Nat} {e : TypeId} {cs : Array Value} (hb : Box W g e cs) (he : e ∈ kvL) : Box W1 g e cs := (h.kv g e he hb.lab).trans hb
theorem PrAt.not_lab {w : World} {B : Nat} {pv : Value} {F : Nat -> Prop} {O : List En} (h : PrAt B w pv F O) {g : Nat} {e : TypeId} (hl : Lab w g e) (he : e ≠ 177 /\ e ≠ 182 /\ e ≠ 3 /\ e ≠ 58 /\ e ≠ 179) : ¬ F g := by
 rcases h with ⟨_, _, rfl⟩ | ⟨t, _, hT⟩
 ·exact fun h => h
 ·exact hT.not_lab hl he
theorem FO.on (hA : A < W.heap.size) (h : Below W.heap.size W W') (k : Nat) (hk : FO W' A k) : FO W A k := by
 obtain ⟨cv, fv, rv, c, hb, hk⟩ := hk
 exact ⟨cv, fv, rv, c, (h.block A hA).symm.trans hb, hk⟩
theorem MP.lt (H : MP W h A m f ts) {t : TO} (ht : t ∈ ts) {k : Nat} (hk : t.F k) : A <= k /\ k < W.heap.size := (H.pr t ht).lt k hk
theorem MP.on (H : MP W h A m f ts) (hb : Below W.heap.size W W') : MP W' h A m f ts :=
 ⟨H.mm.on hb, fun t ht => (H.pr t ht).on hb, fun t ht k hk => ⟨fun h9 => (H.sep t ht k hk).1 (FO.on H.mm.alt hb k h9), (H.sep t ht k hk).2⟩, H.dis, fun q hq => by
  obtain ⟨g1, g2, g3, g4⟩ := H.gi q hq
  exact ⟨g1.below hb, g2, fun h9 => g3 (FO.on H.mm.alt hb _ h9), g4⟩⟩
theorem MM.touch {S : Nat -> Prop} (H : MM W h A m f os) (ht : Touch S W W') (hS : ∀ k, S k -> ¬ FO W A k /\ k ≠ h /\ k ≠ m /\ ∀ o ∈ os, k ≠ o.1) : MM W' h A m f os := by
 obtain ⟨⟨cv, fv, rv, hp⟩, mb, ob, am, al, nd⟩ := H
 refine ⟨⟨cv, fv, rv, hp.hb.touch ht (fun e => (hS h e).2.1 rfl), hp.ar.touch ht (fun k hk e => (hS k e).1 ((FO.of hp.ar k).2 hk)), hp.hB⟩, mb.touch ht (fun e => (hS m e).2.2.1 rfl), fun o ho => (ob o ho).touch ht (fun e => (hS _ e).2.2.2 o ho rfl), am, al, nd⟩
theorem FO.touch {S : Nat -> Prop} (hA : A < W.heap.size) (ht : Touch S W W') (hn : ¬ S A) (k : Nat) (hk : FO W' A k) : FO W A k := by
 obtain ⟨cv, fv, rv, c, hb, hk⟩ := hk
 exact ⟨cv, fv, rv, c, (ht.block A hA hn).symm.trans hb, hk⟩
theorem GhAt.touch {S : Nat -> Prop} {q : Nat × TypeId × Array Value} (G : GhAt W h A m ts q) (hA : A < W.heap.size) (ht : Touch S W W') (hn : ¬ S A) (hq : ¬ S q.1) : GhAt W' h A m ts q := ⟨G.1.touch ht hq, G.2.1, fun h9 => G.2.2.1 (FO.touch hA ht hn _ h9), G.2.2.2⟩
theorem GhAt.off {k : Nat} {e : TypeId} {q : Nat × TypeId × Array Value} (G : GhAt W h A m ts q) (he : e ∈ kvL) (hl : Lab W k e) : q.1 ≠ k := fun e9 => hl.ne G.1.lab (fun e8 => G.2.1 (by rw [<- e8]; exact he)) e9.symm
theorem MM.notA (H : MM W h A m f os) : FO W A A := by
 obtain ⟨cv, fv, rv, hp⟩ := H.hp
 exact (FO.of hp.ar A).2 (.inl rfl)
theorem MM.replace {S : Nat -> Prop} {b : Nat} {cs cs' : Array Value} {os1 os2 : List OS} (H : MM W h A m f (os1 ++ (b, cs) :: os2)) (ht : Touch (fun k => k = b \/ S k) W W') (hS : ∀ k, S k -> ¬ FO W A k /\ k ≠ h /\ k ≠ m /\ ∀ o ∈ os1 ++ (b, cs) :: os2, k ≠ o.1) (hb' : Box W' b 63 cs') (hs : cs.size ≠ 3) (hs' : cs'.size ≠ 3) : MM W' h A m f (os1 ++ (b, cs') :: os2) := by
 obtain ⟨⟨cv, fv, rv, hp⟩, mb, ob, am, al, nd⟩ := H
 have hb : Box W b 63 cs := by have := ob (b, cs) (by simp); rwa [oty_obj hs] at this
 have nd2 : ∀ o ∈ os1 ++ os2, o.1 ≠ b := fun o ho e => by
  rw [List.map_append, List.map_cons] at nd
  obtain ⟨-, n2, n3⟩ := List.nodup_append.1 nd
  have n2 := (List.nodup_cons.1 n2).1
  rcases List.mem_append.1 ho with h9 | h9
  ·exact n3 o.1 (List.mem_map.2 ⟨o, h9, rfl⟩) b (by simp) e
  ·exact n2 (List.mem_map.2 ⟨o, h9, e⟩)
 have e1 : ((os1 ++ (b, cs') :: os2).map fun o => some (pty o, o.1)) = ((os1 ++ (b, cs) :: os2).map fun o => some (pty o, o.1)) := by simp [pty, hs, hs']
 have e2 : (os1 ++ (b, cs') :: os2).length = (os1 ++ (b, cs) :: os2).length := by simp
 have key : ∀ o, o ∈ os1 ++ (b, cs') :: os2 -> o = (b, cs') \/ (o ∈ os1 ++ os2 /\ o ∈ os1 ++ (b, cs) :: os2) := fun o ho => by
  simp only [List.mem_append, List.mem_cons] at ho ⊢
  rcases ho with h9 | h9 | h9 <;> simp [h9]
 refine ⟨⟨cv, fv, rv, ?_⟩, mb.touch ht (fun e => e.elim (fun e => mb.lab.ne hb.lab (by decide) e) (fun e => (hS m e).2.2.1 rfl)), fun o ho => ?_, am, fun o ho => ?_, ?_⟩
 ·rw [e1, e2]
  refine ⟨hp.hb.touch ht (fun e => e.elim (fun e => hp.hb.lab.ne hb.lab (by decide) e) (fun e => (hS h e).2.1 rfl)), hp.ar.touch ht (fun k hk e => ?_), hp.hB⟩
  rcases e with rfl | e
  ·exact AFoot.lab hp.ar hb.lab (by decide) (by decide) (by decide) hk
  ·exact (hS k e).1 ((FO.of hp.ar k).2 hk)
 ·rcases key o ho with rfl | ⟨h9, h8⟩
  ·rw [oty_obj hs']; exact hb'
  ·exact (ob o h8).touch ht (fun e => e.elim (fun e => nd2 o h9 e) (fun e => (hS _ e).2.2.2 o h8 rfl))
 ·rcases key o ho with rfl | ⟨h9, h8⟩
  ·exact al (b, cs) (by simp)
  ·exact al o h8
 ·have e3 : (os1 ++ (b, cs') :: os2).map Prod.fst = (os1 ++ (b, cs) :: os2).map Prod.fst := by simp
  rw [e3]
  exact nd
theorem MP.mem_b (H : MP W h A m f ts) {t : TO} (ht : t ∈ ts) (h1 : (t.cl == 100) = false) : Box W t.b 63 (objF t.cl t.proto t.kd.cs t.pv t.ev t.fn t.kd) := by
 have := H.mm.ob t.os (List.mem_map.2 ⟨t, ht, rfl⟩)
 rw [TO.os_obj h1, oty_obj (by show (16 : Nat) ≠ 3; decide)] at this
 exact this
theorem MP.mem_lt (H : MP W h A m f ts) {t : TO} (ht : t ∈ ts) : t.b < W.heap.size := by
 have := (H.mm.ob t.os (List.mem_map.2 ⟨t, ht, rfl⟩)).lt
 rwa [TO.os_b] at this
theorem MP.step {t : TO} (H : MP W h A m f (ts1 ++ t :: ts2)) (h1 : (t.cl == 100) = false) (pv' ev' fn' : Value) (kd' : KD) (F' : Nat -> Prop) (O' : List En) (ht : Touch (fun k => k = t.b \/ t.F k) W W') (hb : Box W' t.b 63 (objF t.cl t.proto kd'.cs pv' ev' fn' kd')) (hp : PrAt A W' pv' F' O') (hF : ∀ k, F' k -> t.F k \/ W.heap.size <= k) :
  MP W' h A m f (ts1 ++ ⟨t.b, t.cl, t.proto, pv', ev', fn', kd', F', O'⟩ :: ts2) /\ Bk A W W' := by
 have hm : t ∈ ts1 ++ t :: ts2 := by simp
 have hbt := H.mem_b hm h1
 have hS : ∀ k, t.F k -> ¬ FO W A k /\ k ≠ h /\ k ≠ m /\ ∀ o ∈ (ts1 ++ t :: ts2).map TO.os, k ≠ o.1 := fun k hk => by
  obtain ⟨s1, s2, s3, s4⟩ := H.sep t hm k hk
  refine ⟨s1, s2, s3, fun o ho => ?_⟩
  obtain ⟨t', ht', rfl⟩ := List.mem_map.1 ho
  rw [TO.os_b]
  exact s4 t' ht'
 have hmm := H.mm
 rw [List.map_append, List.map_cons, TO.os_obj h1] at hmm hS
 have hA : ¬ (A = t.b \/ t.F A) := fun e => e.elim (fun e => by
  obtain ⟨cv, fv, rv, hp⟩ := H.mm.hp
  exact hp.ar.box.lab.ne hbt.lab (by decide) e) (fun e => (H.sep t hm A e).1 H.mm.notA)
 have key : ∀ t', t' ∈ ts1 ++ ⟨t.b, t.cl, t.proto, pv', ev', fn', kd', F', O'⟩ :: ts2 -> t' = ⟨t.b, t.cl, t.proto, pv', ev', fn', kd', F', O'⟩ \/ t' ∈ ts1 ++ t :: ts2 := fun t' h9 => by
  simp only [List.mem_append, List.mem_cons] at h9 ⊢
  rcases h9 with h9 | h9 | h9 <;> simp [h9]
 have bs : ∀ t' ∈ ts1 ++ ⟨t.b, t.cl, t.proto, pv', ev', fn', kd', F', O'⟩ :: ts2, ∃ t'' ∈ ts1 ++ t :: ts2, t'.b = t''.b := fun t' h9 => by
  rcases key t' h9 with rfl | h9
  ·exact ⟨t, hm, rfl⟩
  ·exact ⟨t', h9, rfl⟩
 have hlen : (ts1 ++ ⟨t.b, t.cl, t.proto, pv', ev', fn', kd', F', O'⟩ :: ts2).length = (ts1 ++ t :: ts2).length := by simp
 have get : ∀ (i : Nat) t', (ts1 ++ ⟨t.b, t.cl, t.proto, pv', ev', fn', kd', F', O'⟩ :: ts2)[i]? = some t' -> (i = ts1.length /\ t' = ⟨t.b, t.cl, t.proto, pv', ev', fn', kd', F', O'⟩) \/ (i ≠ ts1.length /\ (ts1 ++ t :: ts2)[i]? = some t') := fun i t' h9 => by
  rcases Nat.lt_trichotomy i ts1.length with hi | hi | hi
  ·rw [List.getElem?_append_left hi] at h9 ⊢
   exact .inr ⟨by omega, h9⟩
  ·subst hi
   simp at h9
   exact .inl ⟨rfl, h9.symm⟩
  ·refine .inr ⟨by omega, ?_⟩
   rw [List.getElem?_append_right (by omega)] at h9 ⊢
   obtain ⟨j, hj⟩ : ∃ j, i - ts1.length = j + 1 := ⟨i - ts1.length - 1, by omega⟩
   rw [hj] at h9 ⊢
   simpa using h9
 have tat : (ts1 ++ t :: ts2)[ts1.length]? = some t := by simp
 have dist : ∀ (i : Nat) t', i ≠ ts1.length -> (ts1 ++ t :: ts2)[i]? = some t' -> ∀ k, t'.F k -> ¬ (k = t.b \/ t.F k) := fun i t' hi hg k hk e => by
  have hm' := List.mem_of_getElem? hg
  rcases e with e | e
  ·exact (H.sep t' hm' k hk).2.2.2 t hm e
  ·exact H.dis i _ t' t hg tat hi k hk e
 refine ⟨⟨?_, fun t' h9 => ?_, fun t' h9 k hk => ?_, fun i j ti tj hi hj hne k hk hk2 => ?_, fun q hgq => ?_⟩, ?_⟩
 ·rw [List.map_append, List.map_cons, TO.os_obj (t := ⟨t.b, t.cl, t.proto, pv', ev', fn', kd', F', O'⟩) h1]
  exact hmm.replace ht hS hb (by show (16 : Nat) ≠ 3; decide) (by show (16 : Nat) ≠ 3; decide)
 ·obtain ⟨i, hi⟩ := List.mem_iff_getElem?.1 h9
  rcases get i t' hi with ⟨-, rfl⟩ | ⟨hne, hg⟩
  ·exact hp
  ·exact (H.pr t' (List.mem_of_getElem? hg)).touch ht (dist i t' hne hg)
 ·obtain ⟨i, hi⟩ := List.mem_iff_getElem?.1 h9
  rcases get i t' hi with ⟨-, rfl⟩ | ⟨hne, hg⟩
  ·rcases hF k hk with h8 | h8
   ·obtain ⟨s1, s2, s3, s4⟩ := H.sep t hm k h8
    refine ⟨fun h7 => s1 (FO.touch H.mm.alt ht hA k h7), s2, s3, fun t9 h7 e => ?_⟩
    obtain ⟨t'', h6, e6⟩ := bs t9 h7
    exact s4 t'' h6 (by rw [e, e6])
   ·have hb9 : ∀ t9 ∈ ts1 ++ t :: ts2, t9.b < W.heap.size := fun t9 h7 => H.mem_lt h7
    have hh : h < W.heap.size := by obtain ⟨cv, fv, rv, hp⟩ := H.mm.hp; exact hp.hb.lt
    have hmlt := H.mm.mb.lt
    refine ⟨fun h7 => ?_, by omega, by omega, fun t9 h7 e => ?_⟩
    ·have h6 := FO.touch H.mm.alt ht hA k h7
     obtain ⟨cv, fv, rv, hp⟩ := H.mm.hp
     have := (AFoot.lt hp.ar ((FO.of hp.ar k).1 h6)).2
     omega
    ·obtain ⟨t'', h6, e6⟩ := bs t9 h7
     have := hb9 t'' h6
     omega
  ·have hm' := List.mem_of_getElem? hg
   obtain ⟨s1, s2, s3, s4⟩ := H.sep t' hm' k hk
   refine ⟨fun h7 => s1 (FO.touch H.mm.alt ht hA k h7), s2, s3, fun t9 h7 e => ?_⟩
   obtain ⟨t'', h6, e6⟩ := bs t9 h7
   exact s4 t'' h6 (by rw [e, e6])
 ·rcases get i ti hi with ⟨ei, rfl⟩ | ⟨hni, hgi⟩
  ·rcases get j tj hj with ⟨ej, rfl⟩ | ⟨hnj, hgj⟩
   ·exact hne (by rw [ei, ej])
   ·have hmj := List.mem_of_getElem? hgj
    rcases hF k hk with h8 | h8
    ·exact dist j tj hnj hgj k hk2 (.inr h8)
    ·have := (H.lt hmj hk2).2
     omega
  ·have hmi := List.mem_of_getElem? hgi
   rcases get j tj hj with ⟨ej, rfl⟩ | ⟨hnj, hgj⟩
   ·rcases hF k hk2 with h8 | h8
    ·exact dist i ti hni hgi k hk (.inr h8)
    ·have := (H.lt hmi hk).2
     omega
   ·exact H.dis i j ti tj hgi hgj hne k hk hk2
 ·obtain ⟨g1, g2, g3, g4, g5, g6⟩ := H.gi q hgq
  obtain ⟨n1, n2⟩ := g6 t hm
  refine ⟨g1.touch ht (fun e => e.elim n2 n1), g2, fun h9 => g3 (FO.touch H.mm.alt ht hA _ h9), g4, g5, fun t' h9 => ?_⟩
  obtain ⟨t'', h6, e6⟩ := bs t' h9
  refine ⟨fun h8 => ?_, by rw [e6]; exact (g6 t'' h6).2⟩
  rcases key t' h9 with rfl | h7
  ·rcases hF _ h8 with h5 | h5
   ·exact n1 h5
   ·have := g1.lt
    omega
  ·exact (g6 t' h7).1 h8
 ·refine ⟨ht.below (Nat.le_of_lt H.mm.alt) (fun k hk => ?_), fun k e9 he hl => ht.block k (lab_lt hl) (fun e => ?_)⟩
  ·rcases hk with rfl | hk
   ·have := H.mm.al t.os (List.mem_map.2 ⟨t, hm, rfl⟩)
    rwa [TO.os_b] at this
   ·exact (H.lt hm hk).1
  ·rcases e with rfl | e
   ·exact hl.ne hbt.lab ((by decide : ∀ e ∈ kvL, e ≠ 63) e9 he) rfl
   ·exact (H.pr t hm).not_lab hl ((by decide : ∀ e ∈ kvL, e ≠ 177 /\ e ≠ 182 /\ e ≠ 3 /\ e ≠ 58 /\ e ≠ 179) e9 he) e
theorem MP.new {t : TO} (H : MP W h A m f ts) (hmm : MM W' h A m f (ts.map TO.os ++ [t.os])) (hq : Kq A W W') (hbl : Below A W W') (hbn : W.heap.size <= t.b) (hF : ∀ k, ¬ t.F k) (hpr : PrAt A W' t.pv t.F t.O) : MP W' h A m f (ts ++ [t]) := by
 have mem : ∀ t', t' ∈ ts ++ [t] -> t' ∈ ts \/ t' = t := fun t' h9 => by simpa using h9
 have get : ∀ (i : Nat) t', (ts ++ [t])[i]? = some t' -> ts[i]? = some t' \/ t' = t := fun i t' h9 => by
  rcases Nat.lt_or_ge i ts.length with hi | hi
  ·rw [List.getElem?_append_left hi] at h9
   exact .inl h9
  ·rw [List.getElem?_append_right hi] at h9
   have := List.mem_of_getElem? h9
   exact .inr (by simpa using this)
 refine ⟨by rw [List.map_append]; exact hmm, fun t' h9 => ?_, fun t' h9 k hk => ?_, fun i j ti tj hi hj hne k hk hk2 => ?_, fun q hgq => ?_⟩
 ·rcases mem t' h9 with h9 | rfl
  ·rcases H.pr t' h9 with ⟨e1, e2, e3⟩ | ⟨tt, e1, hT⟩
   ·exact .inl ⟨e1, e2, e3⟩
   ·refine .inr ⟨tt, e1, ?_⟩
    exact hT.touch (S := FO W A) ⟨hbl.os, hbl.tape, hbl.output, hq.size, fun k hk hn => hq.blk k hk hn⟩ (fun k hk => (H.sep t' h9 k hk).1)
  ·exact hpr
 ·rcases mem t' h9 with h9 | rfl
  ·obtain ⟨s1, s2, s3, s4⟩ := H.sep t' h9 k hk
   have hlt := (H.lt h9 hk).2
   refine ⟨fun h7 => (hq.foot k h7).elim s1 (fun h6 => by omega), s2, s3, fun t9 h7 e => ?_⟩
   rcases mem t9 h7 with h7 | rfl
   ·exact s4 t9 h7 e
   ·omega
  ·exact (hF k hk).elim
 ·rcases get i ti hi with hi | rfl
  ·rcases get j tj hj with hj | rfl
   ·exact H.dis i j ti tj hi hj hne k hk hk2
   ·exact hF k hk2
  ·exact hF k hk
 ·obtain ⟨g1, g2, g3, g4, g5, g6⟩ := H.gi q hgq
  have hlt := g1.lt
  refine ⟨(hq.blk q.1 hlt g3).trans g1, g2, fun h9 => (hq.foot _ h9).elim g3 (fun h8 => by omega), g4, g5, fun t' h9 => ?_⟩
  rcases mem t' h9 with h9 | rfl
  ·exact g6 t' h9
  ·exact ⟨hF _, by omega⟩
end
abbrev uOf (s : ByteArray) : List UInt8 := W.ofB s
theorem val_u (nm : ByteArray) (hs : nm.size <= 16777216) (w : World) : Calls Tryz.prog 44 #[.string nm] w fun e w' => e = .returned (valV (7, 0, ⟨(uOf nm).toArray⟩)) /\ Below w.heap.size w w' := W.val_any nm hs w
def OnSt (P : World -> Prop) (WF : World) : Nat -> (Nat -> Value) -> World -> Prop
 | 0 => fun _ w => w = WF
 | 1 => fun _ w => Below WF.heap.size WF w
 | _ => fun _ w => P w
theorem OnSt.bel {P : World -> Prop} {WF w : World} {s : Nat} {f : Nat -> Value} (hs : s <= 1) (h : OnSt P WF s f w) : Below WF.heap.size WF w := by
 match s, hs, h with
 | 0, _, h => rw [show w = WF from h]; exact Below.refl _ _
 | 1, _, h => exact h
theorem own_m {w : World} (P : World -> Prop) (mv : Value) (o : Nat) (nm : ByteArray) (v : Vt) (fl : Int) (hs : nm.size <= 16777216)
  (HD : Veil (∀ W', Below w.heap.size w W' -> Calls Tryz.prog 72 #[(.pointer (some ⟨o, 0, none⟩)), valV (7, 0, ⟨(uOf nm).toArray⟩), valV v, .int .i64 fl] W' fun e w' => e = .returned (.bool true) /\ P w')) :
  Calls Tryz.prog 105 #[mv, (.pointer (some ⟨o, 0, none⟩)), .string nm, valV v, .int .i64 fl] w fun e w' => e = .returned (.tuple #[]) /\ P w' := by
 have b1 := Box.new w 28 #[.int .i64 v.1, .int .i64 v.2.1, .string v.2.2]
 have bb : Below w.heap.size w (w.alloc (.cells #[.int .i64 v.1, .int .i64 v.2.1, .string v.2.2] 28)) := (Below.refl _ _).alloc (Nat.le_refl _) _
 obtain ⟨kb, hkb⟩ : ∃ kb, w.heap.size = kb := ⟨_, rfl⟩
 obtain ⟨W0, hW0⟩ : ∃ W0, w.alloc (.cells #[.int .i64 v.1, .int .i64 v.2.1, .string v.2.2] 28) = W0 := ⟨_, rfl⟩
 rw [hW0] at b1 bb
 have HW0 := Veil.mk (And.intro hW0 hkb)
 rw [hkb] at b1
 have HS := Veil.mk hs
 have HBB := Veil.mk (And.intro bb b1)
 clear hW0 hkb b1 bb hs
 go_enter Tryz.func105, Tryz.ntmps105
 go_upto_region 1 with (fail)
 rw [HW0.out.1, HW0.out.2]
 obtain ⟨WF, hWF⟩ : ∃ WF, W0.drew = WF := ⟨_, rfl⟩
 have HBF : Veil (Below w.heap.size w WF) := ⟨by rw [<- hWF]; exact HBB.out.1.drew⟩
 have hbx : Box WF kb 28 #[.int .i64 v.1, .int .i64 v.2.1, .string v.2.2] := by rw [<- hWF]; exact HBB.out.2.drew
 have HCC : Veil (∀ W, Below WF.heap.size WF W -> W.cell? ⟨kb, 0, none⟩ = some (.int .i64 v.1) /\ W.cell? ⟨kb, 1, none⟩ = some (.int .i64 v.2.1) /\ W.cell? ⟨kb, 2, none⟩ = some (.string v.2.2)) := ⟨fun W hb => ⟨(hbx.below hb).at_ 0, (hbx.below hb).at_ 1, (hbx.below hb).at_ 2⟩⟩
 have HWF := Veil.mk hWF
 clear hWF hbx HBB
 refine wp_region_chain [qq (.pointer (some ⟨o, 0, none⟩)), qq (.string nm), qv (7, 0, ⟨(uOf nm).toArray⟩), qv v, qi fl, qq (.bool true)] (LPh [2, 5] (OnSt P WF)) [some 10, some 11, some 12, some 13, some 14, some 15] (curV' _ [some 10, some 11, some 12, some 13, some 14, some 15]) (by kernel_rfl) rfl rfl (puts_cur _ _) (LPh.start (show _ = WF from HWF.out)) ?_ (by kernel_rfl) ?_
 ·refine SY (fun _ S => ?_) ?_
  ·obtain ⟨⟩ := n6 S.hu
   rw [pin S.ha]
   go_simp
   exact S.kL 0
  refine SY (fun _ S => ?_) ?_
  ·obtain ⟨⟩ := n6 S.hu
   rw [pin S.ha]
   go_simp
   exact S.kL 1
  refine SY (fun w' S => ?_) ?_
  ·obtain ⟨⟩ := n6 S.hu
   obtain rfl := S.q 1
   have gb := S.h0
   have hst := S.hI.ph.btw1 0 (.inl rfl) (.inr ⟨2, rfl, gb⟩)
   have hst' : WF = w' := (show w' = WF from hst).symm
   clear hst
   subst hst'
   clear gb
   rw [pin S.ha]
   go_simp
   go_at_call 44
   refine (val_u nm HS.out _).mono ?_
   rintro e9 w9 ⟨rfl, hb9⟩
   go_simp
   exact S.kS 2 _ (S.hI.ph.next 0 2 _ rfl S.h0 (.inl rfl) (by decide) (hb9))
  refine SY (fun w' S => ?_) ?_
  ·obtain ⟨⟩ := n6 S.hu
   have gb := (S.hI.bwd [3] 5 3 (by kernel_rfl) rfl S.h0)
   obtain ⟨sg, hlo, hhi, hst⟩ := S.hI.ph.btw 0 1 (.inl rfl) (.inr ⟨5, rfl, gb⟩)
   obtain ⟨c0, c1, c2⟩ := HCC.out w' (OnSt.bel (by omega) hst)
   clear hst
   clear gb
   rw [pin S.ha]
   go_simp
   exact S.kL 3
  refine SY (fun _ S => ?_) ?_
  ·obtain ⟨⟩ := n6 S.hu
   rw [pin S.ha]
   go_simp
   exact S.kL 4
  refine SY (fun w' S => ?_) ?_
  ·obtain ⟨⟩ := n6 S.hu
   obtain rfl := S.q 0
   obtain rfl := S.q 2
   obtain rfl := S.q 3
   obtain rfl := S.q 4
   have ga := (gen_after 2 (by kernel_rfl) S.hp)
   have gb := S.h0
   have hst := S.hI.ph.btw1 1 (.inr ⟨2, rfl, ga⟩) (.inr ⟨5, rfl, gb⟩)
   have HDX := Veil.mk (HD.out w' (HBF.out.trans ((show Below WF.heap.size WF w' from hst).mono HBF.out.size)))
   clear hst
   have HGA := Veil.mk ga
   clear ga gb
   rw [pin S.ha]
   go_simp
   go_at_call 72
   refine HDX.out.mono ?_
   rintro e9 w9 ⟨rfl, hp9⟩
   go_simp
   exact S.kS 5 _ (S.hI.ph.next 1 5 _ rfl S.h0 (.inr ⟨2, rfl, HGA.out⟩) (by decide) (hp9))
  exact Steps.nil
 ·intro us wE hus dd hD2 hJ
  obtain ⟨⟩ := n6 hus
  have q1 := hJ.ph.all (fun c hc => hD2 c (by
   have : c = 2 \/ c = 5 := by simpa using hc
   show c < 6
   omega))
  obtain rfl := hJ.vq 0 hD2
  obtain rfl := hJ.vq 1 hD2
  obtain rfl := hJ.vq 2 hD2
  obtain rfl := hJ.vq 3 hD2
  obtain rfl := hJ.vq 4 hD2
  obtain rfl := hJ.vq 5 hD2
  clear hJ hD2
  have HQ := Veil.mk (show P wE from q1)
  clear q1
  simp only [puts, setAll, List.setIfInBounds_toArray, List.set_cons_zero, List.set_cons_succ]
  go_wp2
  go_end0
  exact ⟨rfl, HQ.out⟩
abbrev kLen : Vt := (7, 0, ⟨#[0, 108, 0, 101, 0, 110, 0, 103, 0, 116, 0, 104]⟩)
abbrev kName : Vt := (7, 0, ⟨#[0, 110, 0, 97, 0, 109, 0, 101]⟩)
theorem keyT_str (n : Int) (s : ByteArray) : keyT (7, n, s) = (7, n, s) := by
 unfold keyT
 rw [if_neg (show ¬ ((7 : Int) = 6) by decide)]
theorem putO_new {O : List En} {k v : Vt} {fl : Int} (h : O.all (fun x => decide (x.1 ≠ k)) = true) : (putO (O, []) k v fl).1 = O ++ [(k, v, fl)] := by
 unfold putO
 rw [if_neg]
 rintro ⟨e, he, hk⟩
 have := List.all_eq_true.1 h e he
 simp [hk] at this
theorem lookO_new {O : List En} {k : Vt} (h : O.all (fun x => decide (x.1 ≠ k)) = true) : lookO O k = ((0, 0, ⟨#[]⟩), 0, false) := by
 unfold lookO
 have : O.find? (fun x => decide (x.1 = k)) = none := by
  rw [List.find?_eq_none]
  intro x hx
  have := List.all_eq_true.1 h x hx
  simpa using this
 rw [this]
section
variable {W W' : World} {h A m : Nat} {f : MF} {os : List OS} {ts ts1 ts2 : List TO}
theorem MP.define {t : TO} (H : MP W h A m f (ts1 ++ t :: ts2)) (h1 : (t.cl == 100) = false) (hn : t.O.length < 40000) (fl : Int) (k v : Vt) (hc : NE t.cl k) (hk6 : keyT k = k) (hk : k.2.2.size <= 1000) (hal : t.O.all (fun x => decide (x.1 ≠ k)) = true) (hcs : t.kd.cs = false) :
  Calls Tryz.prog 72 #[.pointer (some ⟨t.b, 0, none⟩), valV k, valV v, .int .i64 fl] W fun e w' => e = .returned (.bool true) /\ ∃ pv' F', MP w' h A m f (ts1 ++ ⟨t.b, t.cl, t.proto, pv', t.ev, t.fn, t.kd, F', t.O ++ [(k, v, fl)]⟩ :: ts2) /\ Bk A W w' := by
 have hm : t ∈ ts1 ++ t :: ts2 := by simp
 have hb0 := H.mem_b hm h1
 rw [hcs] at hb0
 refine (define_new hb0 (H.pr t hm) (Nat.le_of_lt H.mm.alt) hn fl k v hc hk ⟨_, by rw [hk6]; exact lookO_new hal⟩).mono ?_
 rintro e w' ⟨he, pv', F', hb, hp, ht, hF⟩
 rw [hk6, putO_new hal] at hp
 exact ⟨he, pv', F', H.step h1 pv' t.ev t.fn t.kd F' _ ht (by rw [hcs]; exact hb) hp hF⟩
theorem MP.own {t : TO} (H : MP W h A m f (ts1 ++ t :: ts2)) (h1 : (t.cl == 100) = false) (hn : t.O.length < 40000) (mv : Value) (nm : ByteArray) (kb : List UInt8) (hc : NE t.cl (7, 0, ⟨kb.toArray⟩)) (fl : Int) (v : Vt) (hs : nm.size <= 16777216) (hkb : uOf nm = kb) (hk : kb.length <= 1000) (hal : t.O.all (fun x => decide (x.1 ≠ ((7, 0, ⟨kb.toArray⟩) : Vt))) = true) (hcs : t.kd.cs = false) :
  Calls Tryz.prog 105 #[mv, .pointer (some ⟨t.b, 0, none⟩), .string nm, valV v, .int .i64 fl] W fun e w' => e = .returned (.tuple #[]) /\ ∃ pv' F', MP w' h A m f (ts1 ++ ⟨t.b, t.cl, t.proto, pv', t.ev, t.fn, t.kd, F', t.O ++ [((7, 0, ⟨kb.toArray⟩), v, fl)]⟩ :: ts2) /\ Bk A W w' := by
 refine own_m (fun w' => ∃ pv' F', MP w' h A m f (ts1 ++ ⟨t.b, t.cl, t.proto, pv', t.ev, t.fn, t.kd, F', t.O ++ [((7, 0, ⟨kb.toArray⟩), v, fl)]⟩ :: ts2) /\ Bk A W w') mv t.b nm v fl hs ⟨fun W1 hb => ?_⟩
 rw [hkb]
 refine ((H.on hb).define h1 hn fl (7, 0, ⟨kb.toArray⟩) v hc (keyT_str _ _) (by show kb.toArray.size <= 1000; simpa using hk) hal hcs).mono ?_
 rintro e w' ⟨he, pv', F', h1, h2⟩
 exact ⟨he, pv', F', h1, (Bk.of_below (Nat.le_of_lt H.mm.alt) hb).trans h2⟩
theorem MP.create (H : MP W h A m f ts) (cl proto : Int) (hcl : (cl == 100) = false) (hl : ts.length < 100000) : Calls Tryz.prog 36 #[.pointer (some ⟨m, 0, none⟩), .int .i64 cl, .int .i64 proto] W fun e w' => e = .returned (.tuple #[.int .i64 ((ts.length : Int) + 1), .pointer (some ⟨W.heap.size, 0, none⟩)]) /\ MP w' h A m f (ts ++ [TO.plain W.heap.size cl proto (.slice none 0 0)]) /\ Bk A W w' := by
 refine (H.mm.create cl proto (by rw [List.length_map]; omega)).mono ?_
 rintro e w' ⟨he, h1, h2, h3, h4⟩
 rw [List.length_map] at he
 exact ⟨he, H.new (t := TO.plain W.heap.size cl proto (.slice none 0 0)) (by rw [TO.os_obj hcl]; exact h1) h4 h2 (Nat.le_refl _) (fun _ h => h) (.inl ⟨rfl, rfl, rfl⟩), Bk.of_kp h2 h3⟩
theorem MP.function (H : MP W h A m f ts) (nm : ByteArray) (n : Int) (hs : nm.size <= 16777216) (hl : ts.length < 100000) : Calls Tryz.prog 131 #[.pointer (some ⟨m, 0, none⟩), .string nm, .int .i64 n] W fun e w' => ∃ b, e = .returned (.tuple #[.int .i64 ((ts.length : Int) + 1), .pointer (some ⟨b, 0, none⟩)]) /\ ∃ pv F, MP w' h A m f (ts ++ [⟨b, 2, f 1, pv, .slice none 0 0, .nilIface, kd0, F, [(kLen, (3, n, ⟨#[]⟩), 4), (kName, (7, 0, ⟨(uOf nm).toArray⟩), 4)]⟩]) /\ Bk A W w' := by
 have HPR : Veil (Calls Tryz.prog 37 #[.pointer (some ⟨m, 0, none⟩), .int .i64 1] W fun e w' => e = .returned (.int .i64 (f 1)) /\ w' = W) := ⟨H.mm.proto_any 1 (by decide)⟩
 have HCR := Veil.mk (H.create 2 (f 1) rfl hl)
 have HS := Veil.mk hs
 have HA : Veil (A <= W.heap.size) := ⟨Nat.le_of_lt H.mm.alt⟩
 obtain ⟨b, hb⟩ : ∃ b, W.heap.size = b := ⟨_, rfl⟩
 rw [hb] at HCR
 clear H hs hl hb
 go_enter Tryz.func131, Tryz.ntmps131
 go_upto_region 2 with (first | (go_at_call 37; ((with_reducible refine HPR.out.mono ?_); rintro e w1 ⟨rfl, h1⟩; subst w1)) | (go_at_call 36; ((with_reducible refine HCR.out.mono ?_); rintro e w2 ⟨rfl, hm2, hb2⟩; have H2 := Veil.mk (And.intro hm2 hb2); clear hm2 hb2)))
 have HO1 : Veil (Calls Tryz.prog 105 #[.pointer (some ⟨m, 0, none⟩), (.pointer (some ⟨b, 0, none⟩)), .string ⟨#[108, 101, 110, 103, 116, 104]⟩, valV (3, n, ⟨#[]⟩), .int .i64 4] w2 fun e w' => e = .returned (.tuple #[]) /\ ∃ pv' F', MP w' h A m f (ts ++ [⟨b, 2, f 1, pv', .slice none 0 0, .nilIface, kd0, F', [(kLen, (3, n, ⟨#[]⟩), 4)]⟩]) /\ Bk A w2 w') := ⟨H2.out.1.own (t := TO.plain b 2 (f 1) (.slice none 0 0)) (ts2 := []) rfl (by show 0 < 40000; omega) _ ⟨#[108, 101, 110, 103, 116, 104]⟩ [0, 108, 0, 101, 0, 110, 0, 103, 0, 116, 0, 104] (.inl rfl) 4 (3, n, ⟨#[]⟩) (by decide) (by decide +kernel) (by decide) rfl rfl⟩
 clear HCR HPR
 go_upto_region 3 with (go_at_call 105; ((with_reducible refine HO1.out.mono ?_); rintro e w3 ⟨rfl, pv3, F3, hm3, hb3⟩; have H3 := Veil.mk (And.intro hm3 hb3); clear hm3 hb3))
 have HVL : Veil (Calls Tryz.prog 44 #[.string nm] w3 fun e w' => e = .returned (valV (7, 0, ⟨(uOf nm).toArray⟩)) /\ Below w3.heap.size w3 w') := ⟨val_u nm HS.out w3⟩
 have HO2 : Veil (∀ w', Below w3.heap.size w3 w' -> Calls Tryz.prog 105 #[.pointer (some ⟨m, 0, none⟩), (.pointer (some ⟨b, 0, none⟩)), .string ⟨#[110, 97, 109, 101]⟩, valV (7, 0, ⟨(uOf nm).toArray⟩), .int .i64 4] w' fun e w9 => e = .returned (.tuple #[]) /\ ∃ pv' F', MP w9 h A m f (ts ++ [⟨b, 2, f 1, pv', .slice none 0 0, .nilIface, kd0, F', [(kLen, (3, n, ⟨#[]⟩), 4), (kName, (7, 0, ⟨(uOf nm).toArray⟩), 4)]⟩]) /\ Bk A w' w9) := ⟨fun w' hb => (H3.out.1.on hb).own (t := ⟨b, 2, f 1, pv3, .slice none 0 0, .nilIface, kd0, F3, [(kLen, (3, n, ⟨#[]⟩), 4)]⟩) (ts2 := []) rfl (by show 1 < 40000; omega) _ ⟨#[110, 97, 109, 101]⟩ [0, 110, 0, 97, 0, 109, 0, 101] (.inl rfl) 4 (7, 0, ⟨(uOf nm).toArray⟩) (by decide) (by decide +kernel) (by decide) (by show (decide (kLen ≠ kName) && true) = true; decide +kernel) rfl⟩
 obtain ⟨nv, hnv⟩ : ∃ nv, (⟨(uOf nm).toArray⟩ : ByteArray) = nv := ⟨_, rfl⟩
 rw [hnv] at HVL HO2
 have HNV := Veil.mk hnv
 clear HO1 hnv
 go_wp2_with (first | (go_at_call 44; ((with_reducible refine HVL.out.mono ?_); rintro e w4 ⟨rfl, hb4⟩; have HO3 := Veil.mk (HO2.out w4 hb4); have HB4 := Veil.mk hb4; clear hb4)) | (go_at_call 105; ((with_reducible refine HO3.out.mono ?_); rintro e w5 ⟨rfl, pv5, F5, hm5, hb5⟩; have H5 := Veil.mk (And.intro hm5 hb5); clear hm5 hb5)))
 refine bodyPost_ret (v := .tuple #[.int .i64 ((ts.length : Int) + 1), .pointer (some ⟨b, 0, none⟩)]) (by simp [results, Tryz.results131, go_sem]) rfl ⟨b, rfl, pv5, F5, by rw [HNV.out]; exact H5.out.1, ?_⟩
 have hA3 : A <= w3.heap.size := Nat.le_of_lt H3.out.1.mm.alt
 exact ((H2.out.2.trans H3.out.2).trans (Bk.of_below hA3 HB4.out)).trans H5.out.2
end
section
variable {W W' : World} {h A m : Nat} {f : MF} {os : List OS} {ts ts1 ts2 : List TO}
theorem MP.putv (H : MP W h A m f ts) {g : Nat} (hl : Lab W g 28) (i : Nat) (u : Value) : MP (W.setCell ⟨g, i, none⟩ u) h A m f ts := by
 have ht : Touch (fun k => k = g) W (W.setCell ⟨g, i, none⟩ u) := Touch.put (S := fun k => k = g) rfl _ _
 have hA : ¬ A = g := fun e => by
  obtain ⟨cv, fv, rv, hp⟩ := H.mm.hp
  exact hp.ar.box.lab.ne hl (by decide) e
 refine ⟨H.mm.touch ht (fun k hk => ?_), fun t h9 => (H.pr t h9).touch ht (fun k hk e => ?_), fun t h9 k hk => ⟨fun h7 => (H.sep t h9 k hk).1 (FO.touch H.mm.alt ht hA k h7), (H.sep t h9 k hk).2⟩, H.dis, fun q hgq => ?_⟩
 ·subst hk
  obtain ⟨cv, fv, rv, hp⟩ := H.mm.hp
  refine ⟨fun h9 => AFoot.lab hp.ar hl (by decide) (by decide) (by decide) ((FO.of hp.ar k).1 h9), hl.ne hp.hb.lab (by decide), hl.ne H.mm.mb.lab (by decide), fun o ho => hl.ne (H.mm.ob o ho).lab (fun e => oty_v o e.symm)⟩
 ·subst e
  exact (H.pr t h9).not_lab hl (by decide) hk
 ·have G := H.gi q hgq
  exact G.touch H.mm.alt ht hA (fun e => G.off (by decide) hl e)
theorem MP.setFn {t : TO} (H : MP W h A m f (ts1 ++ t :: ts2)) (h1 : (t.cl == 100) = false) (fn : Value) (kd : Int) : MP ((W.setCell ⟨t.b, 10, none⟩ fn).setCell ⟨t.b, 13, none⟩ (.int .i64 kd)) h A m f (ts1 ++ ⟨t.b, t.cl, t.proto, t.pv, t.ev, fn, { t.kd with k := kd }, t.F, t.O⟩ :: ts2) /\ Bk A W ((W.setCell ⟨t.b, 10, none⟩ fn).setCell ⟨t.b, 13, none⟩ (.int .i64 kd)) := by
 have hm : t ∈ ts1 ++ t :: ts2 := by simp
 have hb := H.mem_b hm h1
 have ht : Touch (fun k => k = t.b) W ((W.setCell ⟨t.b, 10, none⟩ fn).setCell ⟨t.b, 13, none⟩ (.int .i64 kd)) := (Touch.put (S := fun k => k = t.b) rfl _ _).trans (Touch.put (S := fun k => k = t.b) rfl _ _)
 refine H.step h1 t.pv t.ev fn { t.kd with k := kd } t.F t.O (ht.mono (fun k hk => .inl hk)) ((hb.put 10 fn).put 13 (.int .i64 kd)) ((H.pr t hm).touch ht (fun k hk e => ?_)) (fun k hk => .inl hk)
 subst e
 exact (H.pr t hm).not_lab hb.lab (by decide) hk
theorem MP.native (H : MP W h A m f ts) (id n : Int) (nm : ByteArray) (mk : Bool) (hs : nm.size <= 16777216) (hl : ts.length < 100000) : Calls Tryz.prog 104 #[.pointer (some ⟨m, 0, none⟩), .int .i64 id, .string nm, .int .i64 n, .bool mk] W fun e w' => e = .returned (valV (9, (ts.length : Int) + 1, ⟨#[]⟩)) /\ ∃ b pv F, MP w' h A m f (ts ++ [⟨b, 2, f 1, pv, .slice none 0 0, (.iface 167 (.agg #[.bool mk])), kdI id, F, [(kLen, (3, n, ⟨#[]⟩), 4), (kName, (7, 0, ⟨(uOf nm).toArray⟩), 4)]⟩]) /\ Bk A W w' := by
 obtain ⟨vb, hvb⟩ : ∃ vb, W.heap.size = vb := ⟨_, rfl⟩
 obtain ⟨W0, hW0⟩ : ∃ W0, W.alloc (.cells #[.int .i64 0, .int .i64 0, .string ⟨#[]⟩] 28) = W0 := ⟨_, rfl⟩
 have b1 := Box.new W 28 #[.int .i64 0, .int .i64 0, .string ⟨#[]⟩]
 have bb : Below W.heap.size W (W.alloc (.cells #[.int .i64 0, .int .i64 0, .string ⟨#[]⟩] 28)) := (Below.refl _ _).alloc (Nat.le_refl _) _
 rw [hW0] at b1 bb
 rw [hvb] at b1
 have HW0 := Veil.mk (And.intro hW0 hvb)
 have HA : Veil (A < W.heap.size) := ⟨H.mm.alt⟩
 have HF := Veil.mk ((H.on bb).function nm n hs hl)
 have HX := Veil.mk (And.intro b1 bb)
 clear hW0 hvb b1 bb H hs hl
 go_enter Tryz.func104, Tryz.ntmps104
 go_upto_region 1 with (fail)
 rw [HW0.out.1, HW0.out.2]
 go_upto_region 4 with (go_at_call 131; ((with_reducible refine HF.out.mono ?_); rintro e w3 ⟨b, rfl, pv, F, hm3, hb3⟩; have H3 := Veil.mk (And.intro hm3 hb3); clear hm3 hb3))
 have hbx := H3.out.1.mem_b (t := ⟨b, 2, f 1, pv, .slice none 0 0, .nilIface, kd0, F, [(kLen, (3, n, ⟨#[]⟩), 4), (kName, (7, 0, ⟨(uOf nm).toArray⟩), 4)]⟩) (by simp) rfl
 have c10 : w3.cell? ⟨b, 10, none⟩ = some .nilIface := hbx.at_ 10
 have c13 : w3.cell? ⟨b, 13, none⟩ = some (.int .i64 0) := hbx.at_ 13
 have f10 := hbx.free 10
 have f13 := hbx.free 13
 go_upto_region 5 with (fail)
 have HS4 := Veil.mk (H3.out.1.setFn (t := ⟨b, 2, f 1, pv, .slice none 0 0, .nilIface, kd0, F, [(kLen, (3, n, ⟨#[]⟩), 4), (kName, (7, 0, ⟨(uOf nm).toArray⟩), 4)]⟩) (ts2 := []) rfl (.iface 167 (.agg #[.bool mk])) id)
 have HB4 := Veil.mk (H3.out.2.trans HS4.out.2)
 have hv4 := HB4.out.box HX.out.1
 have HV4 := Veil.mk hv4
 clear hv4 hbx c10 c13 f10 f13
 generalize ((w3.setCell ⟨b, 10, none⟩ (.iface 167 (.agg #[.bool mk]))).setCell ⟨b, 13, none⟩ (.int .i64 id)) = w4 at HS4 HB4 HV4 ⊢
 have HVO := Veil.mk (object_mk ((ts.length : Int) + 1) w4)
 go_wp2_with (go_at_call 23; ((with_reducible refine HVO.out.mono ?_); rintro e w5 ⟨rfl, hb5⟩; have HB5 := Veil.mk (And.intro hb5 (HV4.out.below hb5)); have v0 : w5.cell? ⟨vb, 0, none⟩ = some (.int .i64 0) := HB5.out.2.at_ 0; have v1 : w5.cell? ⟨vb, 1, none⟩ = some (.int .i64 0) := HB5.out.2.at_ 1; have v2 : w5.cell? ⟨vb, 2, none⟩ = some (.string ⟨#[]⟩) := HB5.out.2.at_ 2; have g0 := HB5.out.2.free 0; have g1 := HB5.out.2.free 1; have g2 := HB5.out.2.free 2; clear hb5))
 have hr6 := ((HB5.out.2.put 0 (.int .i64 9)).put 1 (.int .i64 ((ts.length : Int) + 1))).put 2 (.string ⟨#[]⟩)
 have y0 := hr6.at_ 0
 have y1 := hr6.at_ 1
 have y2 := hr6.at_ 2
 have hm6 := (((HS4.out.1.on HB5.out.1).putv HB5.out.2.lab 0 (.int .i64 9)).putv (HB5.out.2.put 0 _).lab 1 (.int .i64 ((ts.length : Int) + 1))).putv ((HB5.out.2.put 0 _).put 1 _).lab 2 (.string ⟨#[]⟩)
 have hvb : W.heap.size = vb := HW0.out.2
 have hA := HA.out
 have hA4 : A <= w4.heap.size := Nat.le_of_lt HS4.out.1.mm.alt
 have hb05 : Bk A W w5 := ((Bk.of_below (Nat.le_of_lt hA) HX.out.2).trans HB4.out).trans (Bk.of_below hA4 HB5.out.1)
 refine bodyPost_ret (v := valV (9, (ts.length : Int) + 1, ⟨#[]⟩)) (by simp [results, Tryz.results104, go_sem, y0, y1, y2]) rfl ⟨rfl, b, pv, F, hm6, ((hb05.bel.setCell (p := ⟨vb, 0, none⟩) (by show A <= vb; omega) _).setCell (p := ⟨vb, 1, none⟩) (by show A <= vb; omega) _).setCell (p := ⟨vb, 2, none⟩) (by show A <= vb; omega) _, fun k e9 he hl => ?_⟩
 have hk : k < vb := by rw [<- hvb]; exact lab_lt hl
 have hne : ∀ (w9 : World) i u, (w9.setCell ⟨vb, i, none⟩ u).heap[k]? = w9.heap[k]? := fun w9 i u => Below.heap_setCell w9 ⟨vb, i, none⟩ u k (fun e => by have e : k = vb := e; omega)
 rw [hne, hne, hne]
 exact hb05.kv k e9 he hl
end
end Go.Proofs.YtahkohfppakaiaaGreatDoor
namespace Go.Proofs.YtahkohfppakaiaaGreatDoor
open Go Go.RowKit
attribute [local go_sem] Oper.semAt_some
abbrev markB (e : Nat) : Bd := (140, e)
theorem HpAt.on {w w' : World} {B h A : Nat} {cv fv rv : Value} {d : AD} (hp : HpAt w B h A cv fv rv d) (hb : Below w.heap.size w w') : HpAt w' B h A cv fv rv d := ⟨hp.hb.below hb, hp.ar.on hb, hp.hB⟩
theorem hp_make {w : World} {B h A : Nat} {cv fv rv : Value} {d : AD} (hp : HpAt w B h A cv fv rv d) (nb : Bd) (hf : d.free = []) (hc : d.count < 1000000) (hl : d.cells.length < 1000000) :
  Calls Tryz.prog 65 #[.pointer (some ⟨A, 0, none⟩), nodeV nb] w fun e w' => e = .returned (.int .i64 ((d.cells.length : Int) + 1)) /\ Touch (AFoot A cv fv rv) w w' /\ ∃ cv' fv' rv', HpAt w' B h A cv' fv' rv' ⟨d.cells ++ [some nb], [], d.count + 1, d.roots⟩ /\ ∀ k, AFoot A cv' fv' rv' k -> AFoot A cv fv rv k \/ w.heap.size <= k := by
 have em : d.mk2 nb = (⟨d.cells ++ [some nb], d.free, d.count + 1, d.roots⟩, d.cells.length + 1) := by
  unfold AD.mk2
  rw [hf]
  rfl
 refine (make_new B A cv fv rv d nb w hp.ar hf (by omega) hl).mono ?_
 rintro e w' ⟨h1, cv', fv', rv', p1, p2, p3⟩
 rw [em] at h1 p1
 rw [hf] at p1
 exact ⟨h1, p2, cv', fv', rv', ⟨hp.hb.touch p2 (AFoot.lab hp.ar hp.hb.lab (by decide) (by decide) (by decide)), p1, hp.hB⟩, p3⟩
def SySt (B h A : Nat) (cv fv rv : Value) (d : AD) (x : Vt) (WD : World) : Nat -> (Nat -> Value) -> World -> Prop
 | 0 => fun _ w => w = WD
 | 1 => fun _ w => w = WD.alloc (.cells #[.int .i64 x.1, .int .i64 x.2.1, .string x.2.2] 142)
 | _ => fun _ w' => Box w' WD.heap.size 142 #[.int .i64 x.1, .int .i64 x.2.1, .string x.2.2] /\ Touch (AFoot A cv fv rv) WD w' /\ ∃ cv' fv' rv', HpAt w' B h A cv' fv' rv' ⟨d.cells ++ [some (markB WD.heap.size)], [], d.count + 1, d.roots⟩ /\ ∀ k, AFoot A cv' fv' rv' k -> AFoot A cv fv rv k \/ WD.heap.size <= k
theorem SySt.below {B h A : Nat} {cv fv rv : Value} {d : AD} {x : Vt} {WD w : World} {s : Nat} {f : Nat -> Value} (hs : s <= 1) (hst : SySt B h A cv fv rv d x WD s f w) : Below WD.heap.size WD w := by
 match s, hs, hst with
 | 0, _, hst => rw [show w = WD from hst]; exact Below.refl _ _
 | 1, _, hst => rw [show w = WD.alloc _ from hst]; exact (Below.refl _ _).alloc (Nat.le_refl _) _
theorem symbol_mk (r : Int) (w : World) : Calls Tryz.prog 67 #[.int .i64 r] w fun e w' => e = .returned (valV (8, r, ⟨#[]⟩)) /\ Below w.heap.size w w' := by
 obtain ⟨vb, hvb⟩ : ∃ vb, w.heap.size = vb := ⟨_, rfl⟩
 obtain ⟨W0, hW0⟩ : ∃ W0, w.alloc (.cells #[.int .i64 0, .int .i64 0, .string ⟨#[]⟩] 28) = W0 := ⟨_, rfl⟩
 have b1 := Box.new w 28 #[.int .i64 0, .int .i64 0, .string ⟨#[]⟩]
 have bb : Below w.heap.size w (w.alloc (.cells #[.int .i64 0, .int .i64 0, .string ⟨#[]⟩] 28)) := (Below.refl _ _).alloc (Nat.le_refl _) _
 rw [hW0] at b1 bb
 rw [hvb] at b1 bb ⊢
 have HW0 := Veil.mk (And.intro hW0 hvb)
 have HBB := Veil.mk (And.intro bb b1)
 have z0 : W0.cell? ⟨vb, 0, none⟩ = some (.int .i64 0) := b1.at_ 0
 have z1 : W0.cell? ⟨vb, 1, none⟩ = some (.int .i64 0) := b1.at_ 1
 have z2 : W0.cell? ⟨vb, 2, none⟩ = some (.string ⟨#[]⟩) := b1.at_ 2
 have f0 := b1.free 0
 have f1 := b1.free 1
 have f2 := b1.free 2
 clear hW0 hvb b1 bb
 go_enter Tryz.func67, Tryz.ntmps67
 go_upto_region 1 with (fail)
 rw [HW0.out.1, HW0.out.2]
 go_wp2
 have hr3 := ((HBB.out.2.put 0 (.int .i64 8)).put 1 (.int .i64 r)).put 2 (.string ⟨#[]⟩)
 have y0 := hr3.at_ 0
 have y1 := hr3.at_ 1
 have y2 := hr3.at_ 2
 exact bodyPost_ret (v := valV (8, r, ⟨#[]⟩)) (by simp [results, Tryz.results67, go_sem, y0, y1, y2]) rfl ⟨rfl, ((HBB.out.1.setCell (p := ⟨vb, 0, none⟩) (Nat.le_refl _) _).setCell (p := ⟨vb, 1, none⟩) (Nat.le_refl _) _).setCell (p := ⟨vb, 2, none⟩) (Nat.le_refl _) _⟩
theorem symbol_any {w : World} {B h A : Nat} {cv fv rv : Value} {d : AD} (hp : HpAt w B h A cv fv rv d) (hf : d.free = []) (hc : d.count < 1000000) (hl : d.cells.length < 1000000) (x : Vt) :
  Calls Tryz.prog 33 #[.pointer (some ⟨h, 0, none⟩), valV x] w fun e w' => e = .returned (valV (8, (d.cells.length : Int) + 1, ⟨#[]⟩)) /\ Touch (fun k => AFoot A cv fv rv k \/ w.heap.size <= k) w w' /\ ∃ m, w.heap.size <= m /\ Box w' m 142 #[.int .i64 x.1, .int .i64 x.2.1, .string x.2.2] /\ ∃ cv' fv' rv', HpAt w' B h A cv' fv' rv' ⟨d.cells ++ [some (markB m)], [], d.count + 1, d.roots⟩ /\ ∀ k, AFoot A cv' fv' rv' k -> AFoot A cv fv rv k \/ w.heap.size <= k := by
 obtain ⟨kb, hkb⟩ : ∃ kb, w.heap.size = kb := ⟨_, rfl⟩
 obtain ⟨vb, hvb⟩ : ∃ vb, kb + 1 = vb := ⟨_, rfl⟩
 have b1 := (Box.new w 28 #[.int .i64 x.1, .int .i64 x.2.1, .string x.2.2]).more (.cells #[.int .i64 0, .int .i64 0, .string ⟨#[]⟩] 28)
 have b2 := Box.new (w.alloc (.cells #[.int .i64 x.1, .int .i64 x.2.1, .string x.2.2] 28)) 28 #[.int .i64 0, .int .i64 0, .string ⟨#[]⟩]
 have bb : Below w.heap.size w ((w.alloc (.cells #[.int .i64 x.1, .int .i64 x.2.1, .string x.2.2] 28)).alloc (.cells #[.int .i64 0, .int .i64 0, .string ⟨#[]⟩] 28)) := ((Below.refl _ _).alloc (Nat.le_refl _) _).alloc (by simp) _
 rw [World.size_alloc] at b2
 obtain ⟨W0, hW0⟩ : ∃ W0, ((w.alloc (.cells #[.int .i64 x.1, .int .i64 x.2.1, .string x.2.2] 28)).alloc (.cells #[.int .i64 0, .int .i64 0, .string ⟨#[]⟩] 28)) = W0 := ⟨_, rfl⟩
 rw [hW0] at b1 b2 bb
 have HW0 := Veil.mk (And.intro hW0 (And.intro hkb hvb))
 rw [hkb] at b1 b2
 rw [hvb] at b2
 have HB0 := Veil.mk (And.intro bb (And.intro b1 b2))
 have HPO := Veil.mk hp
 have HDD := Veil.mk (And.intro hf (And.intro hc hl))
 clear hp hf b1 b2 bb hW0 hkb hvb
 go_enter Tryz.func33, Tryz.ntmps33
 go_upto_region 1 with (fail)
 rw [HW0.out.1, HW0.out.2.1, HW0.out.2.2]
 go_upto_region 3 with (fail)
 obtain ⟨WD, hWD⟩ : ∃ WD, W0.drew = WD := ⟨_, rfl⟩
 have hbd : Below w.heap.size w WD := by rw [<- hWD]; exact HB0.out.1.drew
 have HPD : Veil (HpAt WD B h A cv fv rv d) := ⟨HPO.out.on hbd⟩
 have HKB : Veil (Box WD kb 28 #[.int .i64 x.1, .int .i64 x.2.1, .string x.2.2]) := ⟨by rw [<- hWD]; exact HB0.out.2.1.drew⟩
 have HVB : Veil (Box WD vb 28 #[.int .i64 0, .int .i64 0, .string ⟨#[]⟩]) := ⟨by rw [<- hWD]; exact HB0.out.2.2.drew⟩
 have HBD := Veil.mk hbd
 have HWD := Veil.mk hWD
 clear hbd hWD HB0
 refine wp_region_chain [qp h 0, qp h 0, qp h 0, qp A 0, qv x, qv x, qp WD.heap.size 0, qq (nodeV (markB WD.heap.size)), qi ((d.cells.length : Int) + 1), qi ((d.cells.length : Int) + 1)] (LPh [6, 8] (SySt B h A cv fv rv d x WD)) [some 9, some 10, some 11, some 12, some 13, some 14, some 15, some 16, some 17, some 5] (curV' _ [some 9, some 10, some 11, some 12, some 13, some 14, some 15, some 16, some 17, some 5]) (by kernel_rfl) rfl rfl (puts_cur _ _) (LPh.start (show W0.drew = WD from HWD.out)) ?_ (by kernel_rfl) ?_
 ·refine SY (fun _ S => ?_) ?_
  ·obtain ⟨⟩ := n10 S.hu
   rw [pin S.ha]
   go_simp
   exact S.kL 0
  refine SY (fun _ S => ?_) ?_
  ·obtain ⟨⟩ := n10 S.hu
   obtain rfl := S.q 0
   rw [pin S.ha]
   go_simp
   exact S.kL 1
  refine SY (fun _ S => ?_) ?_
  ·obtain ⟨⟩ := n10 S.hu
   obtain rfl := S.q 1
   rw [pin S.ha]
   go_simp
   exact S.kL 2
  refine SC rfl (fun bb aa w' us hus ha hI hbs hb0 hbp K hK => ?_) ?_
  ·obtain ⟨u0, u1, u2, u3, u4, u5, u6, u7, u8, u9, rfl⟩ := len10 hus
   have e2 : u2 = .pointer (some ⟨h, 0, none⟩) := hI.vl 2 rfl hbp; subst e2
   have h8 := hI.before 8 3 rfl (by kernel_rfl) hb0
   obtain ⟨sg, hsg, hstg⟩ := hI.ph.le 1 8 rfl h8
   have hbl := SySt.below hsg hstg
   have c0 : w'.cell? ⟨h, 0, none⟩ = some (.pointer (some ⟨A, 0, none⟩)) := (HPD.out.hb.below hbl).at_ 0
   clear hstg hbl
   have HI := Veil.mk hI
   clear hI h8
   rw [ha]
   simp only [puts, setAll, List.setIfInBounds_toArray, List.set_cons_zero, List.set_cons_succ]
   go_simp
   exact kL hK HI hus hbs 3 rfl rfl hbp rfl rfl
  refine SY (fun w' S => ?_) ?_
  ·obtain ⟨⟩ := n10 S.hu
   have h5 := S.hI.before 5 4 rfl (by kernel_rfl) S.h0
   have h6 := S.hI.before 6 5 rfl (by kernel_rfl) h5
   have hst := S.hI.ph.at_ 0 6 rfl h6 (.inl rfl)
   clear h6 h5
   have c0 : w'.cell? ⟨kb, 0, none⟩ = some (.int .i64 x.1) := by rw [show w' = WD from hst]; exact HKB.out.at_ 0
   have c1 : w'.cell? ⟨kb, 1, none⟩ = some (.int .i64 x.2.1) := by rw [show w' = WD from hst]; exact HKB.out.at_ 1
   have c2 : w'.cell? ⟨kb, 2, none⟩ = some (.string x.2.2) := by rw [show w' = WD from hst]; exact HKB.out.at_ 2
   rw [pin S.ha]
   go_simp
   exact S.kL 4
  refine SY (fun _ S => ?_) ?_
  ·obtain ⟨⟩ := n10 S.hu
   obtain rfl := S.q 4
   rw [pin S.ha]
   go_simp
   exact S.kL 5
  refine SY (fun w' S => ?_) ?_
  ·obtain ⟨⟩ := n10 S.hu
   obtain rfl := S.q 5
   have hst := S.hI.ph.at_ 0 6 rfl S.h0 (.inl rfl)
   have HST := Veil.mk (show w' = WD from hst)
   clear hst
   rw [pin S.ha]
   go_simp
   exact S.hK _ _ (chain_step S.hI S.hu S.hs 6 (.pointer (some ⟨w'.heap.size, 0, none⟩)) (by show 6 < 10; decide) rfl S.hp (val_of rfl (by rw [HST.out])) (S.hI.ph.next 0 6 _ rfl S.h0 (.inl rfl) (by decide) (show _ = WD.alloc (.cells #[.int .i64 x.1, .int .i64 x.2.1, .string x.2.2] 142) by rw [HST.out])) (by simp only [puts, setAll, List.set_cons_zero, List.set_cons_succ, List.setIfInBounds_toArray]))
  refine SY (fun _ S => ?_) ?_
  ·obtain ⟨⟩ := n10 S.hu
   obtain rfl := S.q 6
   rw [pin S.ha]
   go_simp
   exact S.kL 7
  refine SY (fun w' S => ?_) ?_
  ·obtain ⟨⟩ := n10 S.hu
   obtain rfl := S.q 3
   obtain rfl := S.q 7
   have HB6 := S.hI.back 7 6 rfl (by kernel_rfl) (gen_after 7 (by kernel_rfl) S.hp)
   have hst := S.hI.ph.at_ 1 8 rfl S.h0 (.inr ⟨6, rfl, HB6⟩)
   have HST := Veil.mk (show w' = WD.alloc (.cells #[.int .i64 x.1, .int .i64 x.2.1, .string x.2.2] 142) from hst)
   have hal : Below WD.heap.size WD w' := by rw [HST.out]; exact (Below.refl _ _).alloc (Nat.le_refl _) _
   have HM := Veil.mk (hp_make (HPD.out.on hal) (markB WD.heap.size) HDD.out.1 HDD.out.2.1 HDD.out.2.2)
   have HAL := Veil.mk hal
   have hbx1 : Box w' WD.heap.size 142 #[.int .i64 x.1, .int .i64 x.2.1, .string x.2.2] := by rw [HST.out]; exact Box.new _ _ _
   have HBX1 := Veil.mk (And.intro hbx1 (HPD.out.on HAL.out).ar)
   clear hbx1
   clear hst hal
   rw [pin S.ha]
   go_simp
   go_at_call 65
   refine HM.out.mono ?_
   rintro e9 w9 ⟨rfl, ht9, cv9, fv9, rv9, hp9, ho9⟩
   go_simp
   exact S.hK _ _ (chain_step S.hI S.hu S.hs 8 (.int .i64 ((d.cells.length : Int) + 1)) (by show 8 < 10; decide) rfl S.hp (val_of rfl rfl) (S.hI.ph.next 1 8 _ rfl S.h0 (.inr ⟨6, rfl, HB6⟩) (by decide) ⟨HBX1.out.1.touch ht9 (AFoot.lab HBX1.out.2 HBX1.out.1.lab (by decide) (by decide) (by decide)), (Touch.of_below HAL.out).trans ht9, cv9, fv9, rv9, hp9, fun k hk => (ho9 k hk).imp id (fun h => Nat.le_trans HAL.out.size h)⟩) (by simp only [puts, setAll, List.set_cons_zero, List.set_cons_succ, List.setIfInBounds_toArray]))
  refine SY (fun _ S => ?_) ?_
  ·obtain ⟨⟩ := n10 S.hu
   obtain rfl := S.q 8
   rw [pin S.ha]
   go_simp
   exact S.kL 9
  exact Steps.nil
 ·intro us w9 hus dd hD2 hJ
  obtain ⟨⟩ := n10 hus
  have q1 := hJ.ph.all (fun c hc => hD2 c (by
   have : c = 6 \/ c = 8 := by simpa using hc
   show c < 10
   omega))
  obtain ⟨hx9, ht9, cv9, fv9, rv9, hp9, ho9⟩ := q1
  obtain rfl := hJ.vq 9 hD2
  have hvb9 := HVB.out.touch ht9 (AFoot.lab HPD.out.ar HVB.out.lab (by decide) (by decide) (by decide))
  have HV9 := Veil.mk hvb9
  have hne : (((d.cells.length : Int) + 1) == 0) = false := beq_eq_false_iff_ne.2 (by omega)
  have HSM := Veil.mk (fun w => symbol_mk ((d.cells.length : Int) + 1) w)
  have HF9 := Veil.mk (And.intro ht9 (And.intro hp9 ho9))
  have HX9 := Veil.mk hx9
  clear hJ hD2 ht9 hp9 ho9 hvb9 hx9
  simp only [puts, setAll, List.set_cons_zero, List.set_cons_succ, List.setIfInBounds_toArray]
  go_wp2_with (go_at_call 67; ((with_reducible refine (HSM.out _).mono ?_); rintro e w8 ⟨rfl, hb8⟩; have HV8 := Veil.mk (HV9.out.below hb8); have f0 := HV8.out.free 0; have f1 := HV8.out.free 1; have f2 := HV8.out.free 2; have z0 : w8.cell? ⟨vb, 0, none⟩ = some (.int .i64 0) := HV8.out.at_ 0; have z1 : w8.cell? ⟨vb, 1, none⟩ = some (.int .i64 0) := HV8.out.at_ 1; have z2 : w8.cell? ⟨vb, 2, none⟩ = some (.string ⟨#[]⟩) := HV8.out.at_ 2; have HB8 := Veil.mk hb8; clear hb8))
  obtain ⟨ht9, hp9, ho9⟩ := HF9.out
  have hp8 := hp9.on HB8.out
  have hr3 := ((HV8.out.put 0 (.int .i64 8)).put 1 (.int .i64 ((d.cells.length : Int) + 1))).put 2 (.string ⟨#[]⟩)
  have t3 : Touch (fun k => k = vb) w8 (((w8.setCell ⟨vb, 0, none⟩ (.int .i64 8)).setCell ⟨vb, 1, none⟩ (.int .i64 ((d.cells.length : Int) + 1))).setCell ⟨vb, 2, none⟩ (.string ⟨#[]⟩)) := ((Touch.put (S := fun k => k = vb) rfl _ _).trans (Touch.put (S := fun k => k = vb) rfl _ _)).trans (Touch.put (S := fun k => k = vb) rfl _ _)
  have hvk : w.heap.size <= vb := by have := HW0.out.2.1; have := HW0.out.2.2; omega
  have lv := HV8.out.lab
  have y0 := hr3.at_ 0
  have y1 := hr3.at_ 1
  have y2 := hr3.at_ 2
  have hfin : Touch (fun k => AFoot A cv fv rv k \/ w.heap.size <= k) w (((w8.setCell ⟨vb, 0, none⟩ (.int .i64 8)).setCell ⟨vb, 1, none⟩ (.int .i64 ((d.cells.length : Int) + 1))).setCell ⟨vb, 2, none⟩ (.string ⟨#[]⟩)) := ((((Touch.of_below HBD.out).trans ht9).trans (Touch.of_below HB8.out)).mono (fun k hk => .inl hk)).trans (t3.mono (fun k hk => .inr (by rw [hk]; exact hvk)))
  exact bodyPost_ret (v := valV (8, (d.cells.length : Int) + 1, ⟨#[]⟩)) (by simp [results, Tryz.results33, go_sem, y0, y1, y2]) rfl ⟨rfl, hfin, WD.heap.size, HBD.out.size, (HX9.out.below HB8.out).touch t3 (fun e => (HX9.out.below HB8.out).lab.ne lv (by decide) e), cv9, fv9, rv9, ⟨hp8.hb.touch t3 (fun e => hp8.hb.lab.ne lv (by decide) e), hp8.ar.touch t3 (fun k hk e => AFoot.lab hp8.ar lv (by decide) (by decide) (by decide) (by rw [<- e]; exact hk)), hp8.hB⟩, fun k hk => (ho9 k hk).imp id (fun h => Nat.le_trans HBD.out.size h)⟩
theorem MM.symbol {W : World} {h A m : Nat} {f : MF} {os : List OS} (H : MM W h A m f os) (x : Vt) (hl : os.length < 1000000) : Calls Tryz.prog 33 #[.pointer (some ⟨h, 0, none⟩), valV x] W fun e w' => e = .returned (valV (8, (os.length : Int) + 1, ⟨#[]⟩)) /\ ∃ b, W.heap.size <= b /\ MM w' h A m f (os ++ [(b, #[.int .i64 x.1, .int .i64 x.2.1, .string x.2.2])]) /\ Below A W w' /\ Kp arT W w' /\ Kq A W w' := by
 obtain ⟨⟨cv, fv, rv, hp⟩, mb, ob, am, al, nd⟩ := H
 refine (symbol_any hp rfl (by show os.length < _; omega) (by rw [List.length_map]; omega) x).mono ?_
 rintro e w' ⟨he, ht0, b, hb, hbo, cv', fv', rv', hp', hF⟩
 rw [show (⟨os.map fun o => some (pty o, o.1), [], os.length, []⟩ : AD).cells.length = os.length from List.length_map ..] at he
 have ht : Touch (AFoot A cv fv rv) W w' := ⟨ht0.os, ht0.tape, ht0.output, ht0.size, fun k hk hn => ht0.block k hk (fun h9 => h9.elim hn (fun h8 => by omega))⟩
 have keep : ∀ b (t : TypeId) cs, Box W b t cs -> t ≠ 187 -> t ≠ 138 -> t ≠ 3 -> Box w' b t cs := fun b t cs hx e1 e2 e3 => hx.touch ht (AFoot.lab hp.ar hx.lab e1 e2 e3)
 refine ⟨he, b, hb, ⟨⟨cv', fv', rv', ?_⟩, keep _ _ _ mb (by decide) (by decide) (by decide), fun o ho => ?_, am, fun o ho => ?_, ?_⟩, ht.below (Nat.le_of_lt (Nat.lt_of_le_of_lt hp.ar.ha hp.ar.box.lt)) (fun k hk => (AFoot.lt hp.ar hk).1), fun k t hl ht2 => ht.block k (lab_lt hl) (AFoot.lab hp.ar hl (fun e => (by subst e; cases ht2)) (fun e => (by subst e; cases ht2)) (fun e => (by subst e; cases ht2))), ⟨fun k hk hn => ht.block k hk (fun h9 => hn ((FO.of hp.ar k).2 h9)), fun k hk => (hF k ((FO.of hp'.ar k).1 hk)).imp (FO.of hp.ar k).2 id, ht.size⟩⟩
 ·rw [List.map_append, List.length_append]
  exact hp'
 ·rcases List.mem_append.1 ho with h9 | h9
  ·exact keep _ _ _ (ob o h9) (oty_a o) (oty_b o) (oty_c o)
  ·rw [List.mem_singleton.1 h9]
   exact hbo
 ·rcases List.mem_append.1 ho with h9 | h9
  ·exact al o h9
  ·rw [List.mem_singleton.1 h9]
   exact Nat.le_trans am (Nat.le_trans (Nat.le_of_lt mb.lt) hb)
 ·rw [List.map_append, List.nodup_append]
  refine ⟨nd, by simp, fun x hx y hy e => ?_⟩
  obtain ⟨o, ho, rfl⟩ := List.mem_map.1 hx
  have := (ob o ho).lt
  have : y = b := by simpa using hy
  omega
theorem MM.setM {W : World} {h A m : Nat} {f : MF} {os : List OS} (H : MM W h A m f os) (i : Nat) (u : Value) (f' : MF) (hc : (machV (.pointer (some ⟨h, 0, none⟩)) f hostV).setIfInBounds i u = machV (.pointer (some ⟨h, 0, none⟩)) f' hostV) : MM (W.setCell ⟨m, i, none⟩ u) h A m f' os := by
 obtain ⟨⟨cv, fv, rv, hp⟩, mb, ob, am, al, nd⟩ := H
 have ht : Touch (fun b => b = m) W (W.setCell ⟨m, i, none⟩ u) := Touch.put (S := fun b => b = m) rfl _ _
 refine ⟨⟨cv, fv, rv, hp.hb.touch ht (fun e => hp.hb.lab.ne mb.lab (by decide) e), hp.ar.touch ht (fun b hb e => ?_), hp.hB⟩, ?_, fun o ho => (ob o ho).touch ht (fun e => (ob o ho).lab.ne mb.lab (oty_m o) e), am, al, nd⟩
 ·subst e
  exact AFoot.lab hp.ar mb.lab (by decide) (by decide) (by decide) hb
 ·have := mb.put i u
  rw [hc] at this
  exact this
section
variable {W W' : World} {h A m : Nat} {f : MF} {ts ts1 ts2 : List TO}
theorem MP.setM (H : MP W h A m f ts) (i : Nat) (u : Value) (f' : MF) (hc : (machV (.pointer (some ⟨h, 0, none⟩)) f hostV).setIfInBounds i u = machV (.pointer (some ⟨h, 0, none⟩)) f' hostV) (hg : f'.gh = f.gh := by rfl) : MP (W.setCell ⟨m, i, none⟩ u) h A m f' ts /\ Bk A W (W.setCell ⟨m, i, none⟩ u) := by
 have ht : Touch (fun k => k = m) W (W.setCell ⟨m, i, none⟩ u) := Touch.put (S := fun k => k = m) rfl _ _
 have hA : ¬ A = m := fun e => by
  obtain ⟨cv, fv, rv, hp⟩ := H.mm.hp
  exact hp.ar.box.lab.ne H.mm.mb.lab (by decide) e
 refine ⟨⟨H.mm.setM i u f' hc, fun t h9 => (H.pr t h9).touch ht (fun k hk e => (H.sep t h9 k hk).2.2.1 e), fun t h9 k hk => ⟨fun h7 => (H.sep t h9 k hk).1 (FO.touch H.mm.alt ht hA k h7), (H.sep t h9 k hk).2⟩, H.dis, fun q hgq => by
  have G := H.gi q (by rw [<- hg]; exact hgq)
  exact G.touch H.mm.alt ht hA (fun e => G.2.2.2.2.1 e)⟩, ?_⟩
 exact ⟨(Below.refl _ _).setCell (p := ⟨m, i, none⟩) H.mm.am _, fun k e9 he hl => ht.block k (lab_lt hl) (fun e => by subst e; exact hl.ne H.mm.mb.lab ((by decide : ∀ e ∈ kvL, e ≠ 55) e9 he) rfl)⟩
theorem MP.make (H : MP W h A m f ts) (cl proto : Int) (hcl : (cl == 100) = false) (hl : ts.length < 100000) : Calls Tryz.prog 31 #[.pointer (some ⟨h, 0, none⟩), .int .i64 cl, .int .i64 proto] W fun e w' => e = .returned (.tuple #[.int .i64 ((ts.length : Int) + 1), .pointer (some ⟨W.heap.size, 0, none⟩)]) /\ MP w' h A m f (ts ++ [TO.plain W.heap.size cl proto (.slice none 0 0)]) /\ Bk A W w' := by
 refine (H.mm.make cl proto (by rw [List.length_map]; omega)).mono ?_
 rintro e w' ⟨he, h1, h2, h3, h4⟩
 rw [List.length_map] at he
 exact ⟨he, H.new (t := TO.plain W.heap.size cl proto (.slice none 0 0)) (by rw [TO.os_obj hcl]; exact h1) h4 h2 (Nat.le_refl _) (fun _ h => h) (.inl ⟨rfl, rfl, rfl⟩), Bk.of_kp h2 h3⟩
theorem MP.symbol (H : MP W h A m f ts) (x : Vt) (hl : ts.length < 100000) : Calls Tryz.prog 33 #[.pointer (some ⟨h, 0, none⟩), valV x] W fun e w' => e = .returned (valV (8, (ts.length : Int) + 1, ⟨#[]⟩)) /\ ∃ b, MP w' h A m f (ts ++ [TO.sym b x]) /\ Bk A W w' := by
 refine (H.mm.symbol x (by rw [List.length_map]; omega)).mono ?_
 rintro e w' ⟨he, b, hW, hm, h2, h3, h4⟩
 rw [List.length_map] at he
 exact ⟨he, b, H.new (t := TO.sym b x) hm h4 h2 hW (fun _ h => h) (.inl ⟨rfl, rfl, rfl⟩), Bk.of_kp h2 h3⟩
end
end Go.Proofs.YtahkohfppakaiaaGreatDoor
namespace Go.Proofs.YtahkohfppakaiaaGreatDoor
open Go Go.RowKit
structure Bv (A : Nat) (V : Nat -> Prop) (W W' : World) : Prop where
 bel : Below A W W'
 kv : ∀ k e, e ∈ kvL -> Lab W k e -> ¬ V k -> W'.heap[k]? = W.heap[k]?
theorem Bk.bv {A : Nat} {W W' : World} (h : Bk A W W') (V : Nat -> Prop) : Bv A V W W' := ⟨h.bel, fun k e he hl _ => h.kv k e he hl⟩
theorem Bv.trans {A : Nat} {V V1 : Nat -> Prop} {W W1 W2 : World} (h : Bv A V W W1) (h2 : Bv A V1 W1 W2) (hV : ∀ k, V1 k -> V k \/ W.heap.size <= k) : Bv A V W W2 :=
 ⟨h.bel.trans h2.bel, fun k e9 he hl hv => by
  have e := h.kv k e9 he hl hv
  have hlt := lab_lt hl
  obtain ⟨cs, fr, hb⟩ := hl
  exact (h2.kv k e9 he ⟨cs, fr, e.trans hb⟩ (fun h9 => (hV k h9).elim hv (fun h8 => by omega))).trans e⟩
theorem Bv.mono {A : Nat} {V V1 : Nat -> Prop} {W W1 : World} (h : Bv A V W W1) (hV : ∀ k, V k -> V1 k) : Bv A V1 W W1 := ⟨h.bel, fun k e he hl hv => h.kv k e he hl (fun h9 => hv (hV k h9))⟩
theorem Bv.box {A : Nat} {V : Nat -> Prop} {W W1 : World} (h : Bv A V W W1) {g : Nat} {e : TypeId} {cs : Array Value} (hb : Box W g e cs) (he : e ∈ kvL) (hg : ¬ V g) : Box W1 g e cs := (h.kv g e he hb.lab hg).trans hb
theorem Bv.row {A : Nat} {V : Nat -> Prop} {W W1 : World} (h : Bv A V W W1) {ev : Value} {l : List Vt} (hr : RowV W ev l) (hg : ∀ k, ev.ownBlock = some k -> ¬ V k) : RowV W1 ev l := by
 obtain ⟨ao, cap, e, h1, h2, h3⟩ := hr
 refine ⟨ao, cap, e, h1, h2, fun ad had => ?_⟩
 obtain ⟨g, e2, hl, hc⟩ := h3 ad had
 have hb := h.kv g _ (by decide) hl (hg g (by rw [e, had, e2]; rfl))
 obtain ⟨cs, fr, hx⟩ := hl
 exact ⟨g, e2, ⟨cs, fr, hb.trans hx⟩, fun j u hj => by rw [cell_blk hb]; exact hc j u hj⟩
section
variable {W W' : World} {h A m : Nat} {f : MF} {os : List OS} {ts ts1 ts2 : List TO}
theorem MP.stepV {t : TO} {V : Nat -> Prop} (H : MP W h A m f (ts1 ++ t :: ts2)) (h1 : (t.cl == 100) = false) (pv' ev' fn' : Value) (kd' : KD) (F' : Nat -> Prop) (O' : List En) (hV : ∀ k, V k -> A <= k /\ Lab W k 28) (ht : Touch (fun k => k = t.b \/ t.F k \/ V k) W W') (hb : Box W' t.b 63 (objF t.cl t.proto kd'.cs pv' ev' fn' kd')) (hp : PrAt A W' pv' F' O') (hF : ∀ k, F' k -> t.F k \/ W.heap.size <= k) :
  MP W' h A m f (ts1 ++ ⟨t.b, t.cl, t.proto, pv', ev', fn', kd', F', O'⟩ :: ts2) /\ Bv A V W W' := by
 have hm : t ∈ ts1 ++ t :: ts2 := by simp
 have hbt := H.mem_b hm h1
 have hS0 : ∀ k, t.F k \/ V k -> ¬ FO W A k /\ k ≠ h /\ k ≠ m /\ ∀ t' ∈ ts1 ++ t :: ts2, k ≠ t'.b := fun k hk => by
  rcases hk with hk | hk
  ·exact H.sep t hm k hk
  ·have hl := (hV k hk).2
   obtain ⟨cv, fv, rv, hp⟩ := H.mm.hp
   refine ⟨fun h9 => AFoot.lab hp.ar hl (by decide) (by decide) (by decide) ((FO.of hp.ar k).1 h9), hl.ne hp.hb.lab (by decide), hl.ne H.mm.mb.lab (by decide), fun t' ht' => ?_⟩
   have := hl.ne (H.mm.ob t'.os (List.mem_map.2 ⟨t', ht', rfl⟩)).lab (fun e => oty_v _ e.symm)
   rwa [TO.os_b] at this
 have hS : ∀ k, t.F k \/ V k -> ¬ FO W A k /\ k ≠ h /\ k ≠ m /\ ∀ o ∈ (ts1 ++ t :: ts2).map TO.os, k ≠ o.1 := fun k hk => by
  obtain ⟨s1, s2, s3, s4⟩ := hS0 k hk
  refine ⟨s1, s2, s3, fun o ho => ?_⟩
  obtain ⟨t', ht', rfl⟩ := List.mem_map.1 ho
  rw [TO.os_b]
  exact s4 t' ht'
 have hmm := H.mm
 rw [List.map_append, List.map_cons, TO.os_obj h1] at hmm hS
 have hA : ¬ (A = t.b \/ t.F A \/ V A) := fun e => e.elim (fun e => by
  obtain ⟨cv, fv, rv, hp⟩ := H.mm.hp
  exact hp.ar.box.lab.ne hbt.lab (by decide) e) (fun e => (hS0 A e).1 H.mm.notA)
 have key : ∀ t', t' ∈ ts1 ++ ⟨t.b, t.cl, t.proto, pv', ev', fn', kd', F', O'⟩ :: ts2 -> t' = ⟨t.b, t.cl, t.proto, pv', ev', fn', kd', F', O'⟩ \/ t' ∈ ts1 ++ t :: ts2 := fun t' h9 => by
  simp only [List.mem_append, List.mem_cons] at h9 ⊢
  rcases h9 with h9 | h9 | h9 <;> simp [h9]
 have bs : ∀ t' ∈ ts1 ++ ⟨t.b, t.cl, t.proto, pv', ev', fn', kd', F', O'⟩ :: ts2, ∃ t'' ∈ ts1 ++ t :: ts2, t'.b = t''.b := fun t' h9 => by
  rcases key t' h9 with rfl | h9
  ·exact ⟨t, hm, rfl⟩
  ·exact ⟨t', h9, rfl⟩
 have hlen : (ts1 ++ ⟨t.b, t.cl, t.proto, pv', ev', fn', kd', F', O'⟩ :: ts2).length = (ts1 ++ t :: ts2).length := by simp
 have get : ∀ (i : Nat) t', (ts1 ++ ⟨t.b, t.cl, t.proto, pv', ev', fn', kd', F', O'⟩ :: ts2)[i]? = some t' -> (i = ts1.length /\ t' = ⟨t.b, t.cl, t.proto, pv', ev', fn', kd', F', O'⟩) \/ (i ≠ ts1.length /\ (ts1 ++ t :: ts2)[i]? = some t') := fun i t' h9 => by
  rcases Nat.lt_trichotomy i ts1.length with hi | hi | hi
  ·rw [List.getElem?_append_left hi] at h9 ⊢
   exact .inr ⟨by omega, h9⟩
  ·subst hi
   simp at h9
   exact .inl ⟨rfl, h9.symm⟩
  ·refine .inr ⟨by omega, ?_⟩
   rw [List.getElem?_append_right (by omega)] at h9 ⊢
   obtain ⟨j, hj⟩ : ∃ j, i - ts1.length = j + 1 := ⟨i - ts1.length - 1, by omega⟩
   rw [hj] at h9 ⊢
   simpa using h9
 have tat : (ts1 ++ t :: ts2)[ts1.length]? = some t := by simp
 have dist : ∀ (i : Nat) t', i ≠ ts1.length -> (ts1 ++ t :: ts2)[i]? = some t' -> ∀ k, t'.F k -> ¬ (k = t.b \/ t.F k \/ V k) := fun i t' hi hg k hk e => by
  have hm' := List.mem_of_getElem? hg
  rcases e with e | e | e
  ·exact (H.sep t' hm' k hk).2.2.2 t hm e
  ·exact H.dis i _ t' t hg tat hi k hk e
  ·exact (H.pr t' hm').not_lab (hV k e).2 (by decide) hk
 refine ⟨⟨?_, fun t' h9 => ?_, fun t' h9 k hk => ?_, fun i j ti tj hi hj hne k hk hk2 => ?_, fun q hgq => ?_⟩, ?_⟩
 ·rw [List.map_append, List.map_cons, TO.os_obj (t := ⟨t.b, t.cl, t.proto, pv', ev', fn', kd', F', O'⟩) h1]
  exact hmm.replace ht hS hb (by show (16 : Nat) ≠ 3; decide) (by show (16 : Nat) ≠ 3; decide)
 ·obtain ⟨i, hi⟩ := List.mem_iff_getElem?.1 h9
  rcases get i t' hi with ⟨-, rfl⟩ | ⟨hne, hg⟩
  ·exact hp
  ·exact (H.pr t' (List.mem_of_getElem? hg)).touch ht (dist i t' hne hg)
 ·obtain ⟨i, hi⟩ := List.mem_iff_getElem?.1 h9
  rcases get i t' hi with ⟨-, rfl⟩ | ⟨hne, hg⟩
  ·rcases hF k hk with h8 | h8
   ·obtain ⟨s1, s2, s3, s4⟩ := H.sep t hm k h8
    refine ⟨fun h7 => s1 (FO.touch H.mm.alt ht hA k h7), s2, s3, fun t9 h7 e => ?_⟩
    obtain ⟨t'', h6, e6⟩ := bs t9 h7
    exact s4 t'' h6 (by rw [e, e6])
   ·have hb9 : ∀ t9 ∈ ts1 ++ t :: ts2, t9.b < W.heap.size := fun t9 h7 => H.mem_lt h7
    have hh : h < W.heap.size := by obtain ⟨cv, fv, rv, hp⟩ := H.mm.hp; exact hp.hb.lt
    have hmlt := H.mm.mb.lt
    refine ⟨fun h7 => ?_, by omega, by omega, fun t9 h7 e => ?_⟩
    ·have h6 := FO.touch H.mm.alt ht hA k h7
     obtain ⟨cv, fv, rv, hp⟩ := H.mm.hp
     have := (AFoot.lt hp.ar ((FO.of hp.ar k).1 h6)).2
     omega
    ·obtain ⟨t'', h6, e6⟩ := bs t9 h7
     have := hb9 t'' h6
     omega
  ·have hm' := List.mem_of_getElem? hg
   obtain ⟨s1, s2, s3, s4⟩ := H.sep t' hm' k hk
   refine ⟨fun h7 => s1 (FO.touch H.mm.alt ht hA k h7), s2, s3, fun t9 h7 e => ?_⟩
   obtain ⟨t'', h6, e6⟩ := bs t9 h7
   exact s4 t'' h6 (by rw [e, e6])
 ·rcases get i ti hi with ⟨ei, rfl⟩ | ⟨hni, hgi⟩
  ·rcases get j tj hj with ⟨ej, rfl⟩ | ⟨hnj, hgj⟩
   ·exact hne (by rw [ei, ej])
   ·have hmj := List.mem_of_getElem? hgj
    rcases hF k hk with h8 | h8
    ·exact dist j tj hnj hgj k hk2 (.inr (.inl h8))
    ·have := (H.lt hmj hk2).2
     omega
  ·have hmi := List.mem_of_getElem? hgi
   rcases get j tj hj with ⟨ej, rfl⟩ | ⟨hnj, hgj⟩
   ·rcases hF k hk2 with h8 | h8
    ·exact dist i ti hni hgi k hk (.inr (.inl h8))
    ·have := (H.lt hmi hk).2
     omega
   ·exact H.dis i j ti tj hgi hgj hne k hk hk2
 ·obtain ⟨g1, g2, g3, g4, g5, g6⟩ := H.gi q hgq
  obtain ⟨n1, n2⟩ := g6 t hm
  have n3 : ¬ V q.1 := fun e => (hV q.1 e).2.ne g1.lab (fun e9 => g2 (by rw [<- e9]; decide)) rfl
  refine ⟨g1.touch ht (fun e => e.elim n2 (fun e => e.elim n1 n3)), g2, fun h9 => g3 (FO.touch H.mm.alt ht hA _ h9), g4, g5, fun t' h9 => ?_⟩
  obtain ⟨t'', h6, e6⟩ := bs t' h9
  refine ⟨fun h8 => ?_, by rw [e6]; exact (g6 t'' h6).2⟩
  rcases key t' h9 with rfl | h7
  ·rcases hF _ h8 with h5 | h5
   ·exact n1 h5
   ·have := g1.lt
    omega
  ·exact (g6 t' h7).1 h8
 ·refine ⟨ht.below (Nat.le_of_lt H.mm.alt) (fun k hk => ?_), fun k e9 he hl hv => ht.block k (lab_lt hl) (fun e => ?_)⟩
  ·rcases hk with rfl | hk | hk
   ·have := H.mm.al t.os (List.mem_map.2 ⟨t, hm, rfl⟩)
    rwa [TO.os_b] at this
   ·exact (H.lt hm hk).1
   ·exact (hV k hk).1
  ·rcases e with rfl | e | e
   ·exact hl.ne hbt.lab ((by decide : ∀ e ∈ kvL, e ≠ 63) e9 he) rfl
   ·exact (H.pr t hm).not_lab hl ((by decide : ∀ e ∈ kvL, e ≠ 177 /\ e ≠ 182 /\ e ≠ 3 /\ e ≠ 58 /\ e ≠ 179) e9 he) e
   ·exact hv e
theorem ts_at {p : Nat} {t : TO} (hp : ts[p]? = some t) : ∃ ts1 ts2, ts = ts1 ++ t :: ts2 /\ ts1.length = p /\ ∀ t', ts.set p t' = ts1 ++ t' :: ts2 := by
 have hlt := (List.getElem?_eq_some_iff.1 hp).1
 have e : ∀ t', ts.set p t' = ts.take p ++ t' :: ts.drop (p + 1) := fun t' => by rw [List.set_eq_take_append_cons_drop, if_pos hlt]
 have e0 : ts.set p t = ts := by rw [<- (List.getElem?_eq_some_iff.1 hp).2]; exact List.set_getElem_self hlt
 exact ⟨ts.take p, ts.drop (p + 1), e0.symm.trans (e t), by rw [List.length_take]; omega, e⟩
theorem MP.stepV_at {t : TO} {V : Nat -> Prop} {p : Nat} (H : MP W h A m f ts) (hp : ts[p]? = some t) (h1 : (t.cl == 100) = false) (pv' ev' fn' : Value) (kd' : KD) (F' : Nat -> Prop) (O' : List En) (hV : ∀ k, V k -> A <= k /\ Lab W k 28) (ht : Touch (fun k => k = t.b \/ t.F k \/ V k) W W') (hb : Box W' t.b 63 (objF t.cl t.proto kd'.cs pv' ev' fn' kd')) (hpr : PrAt A W' pv' F' O') (hF : ∀ k, F' k -> t.F k \/ W.heap.size <= k) :
  MP W' h A m f (ts.set p ⟨t.b, t.cl, t.proto, pv', ev', fn', kd', F', O'⟩) /\ Bv A V W W' := by
 obtain ⟨ts1, ts2, e1, e2, e3⟩ := ts_at hp
 rw [e3]
 rw [e1] at H
 exact H.stepV h1 pv' ev' fn' kd' F' O' hV ht hb hpr hF
theorem MP.step_at {t : TO} {p : Nat} (H : MP W h A m f ts) (hp : ts[p]? = some t) (h1 : (t.cl == 100) = false) (pv' ev' fn' : Value) (kd' : KD) (F' : Nat -> Prop) (O' : List En) (ht : Touch (fun k => k = t.b \/ t.F k) W W') (hb : Box W' t.b 63 (objF t.cl t.proto kd'.cs pv' ev' fn' kd')) (hpr : PrAt A W' pv' F' O') (hF : ∀ k, F' k -> t.F k \/ W.heap.size <= k) :
  MP W' h A m f (ts.set p ⟨t.b, t.cl, t.proto, pv', ev', fn', kd', F', O'⟩) /\ Bk A W W' := by
 obtain ⟨ts1, ts2, e1, e2, e3⟩ := ts_at hp
 rw [e3]
 rw [e1] at H
 exact H.step h1 pv' ev' fn' kd' F' O' ht hb hpr hF
theorem MP.define_at {t : TO} {p : Nat} (H : MP W h A m f ts) (hp : ts[p]? = some t) (h1 : (t.cl == 100) = false) (hn : t.O.length < 40000) (fl : Int) (k v : Vt) (hc : NE t.cl k) (hk6 : keyT k = k) (hk : k.2.2.size <= 1000) (hal : t.O.all (fun x => decide (x.1 ≠ k)) = true) (hcs : t.kd.cs = false) :
  Calls Tryz.prog 72 #[.pointer (some ⟨t.b, 0, none⟩), valV k, valV v, .int .i64 fl] W fun e w' => e = .returned (.bool true) /\ ∃ pv' F', MP w' h A m f (ts.set p ⟨t.b, t.cl, t.proto, pv', t.ev, t.fn, t.kd, F', t.O ++ [(k, v, fl)]⟩) /\ Bk A W w' := by
 obtain ⟨ts1, ts2, e1, e2, e3⟩ := ts_at hp
 rw [e1] at H
 refine (H.define h1 hn fl k v hc hk6 hk hal hcs).mono ?_
 rintro e w' ⟨he, pv', F', h2, h3⟩
 exact ⟨he, pv', F', by rw [e3]; exact h2, h3⟩
theorem MP.own_at {t : TO} {p : Nat} (H : MP W h A m f ts) (hp : ts[p]? = some t) (h1 : (t.cl == 100) = false) (hn : t.O.length < 40000) (mv : Value) (nm : ByteArray) (kb : List UInt8) (hc : NE t.cl (7, 0, ⟨kb.toArray⟩)) (fl : Int) (v : Vt) (hs : nm.size <= 16777216) (hkb : uOf nm = kb) (hk : kb.length <= 1000) (hal : t.O.all (fun x => decide (x.1 ≠ ((7, 0, ⟨kb.toArray⟩) : Vt))) = true) (hcs : t.kd.cs = false) :
  Calls Tryz.prog 105 #[mv, .pointer (some ⟨t.b, 0, none⟩), .string nm, valV v, .int .i64 fl] W fun e w' => e = .returned (.tuple #[]) /\ ∃ pv' F', MP w' h A m f (ts.set p ⟨t.b, t.cl, t.proto, pv', t.ev, t.fn, t.kd, F', t.O ++ [((7, 0, ⟨kb.toArray⟩), v, fl)]⟩) /\ Bk A W w' := by
 obtain ⟨ts1, ts2, e1, e2, e3⟩ := ts_at hp
 rw [e1] at H
 refine (H.own h1 hn mv nm kb hc fl v hs hkb hk hal hcs).mono ?_
 rintro e w' ⟨he, pv', F', h2, h3⟩
 exact ⟨he, pv', F', by rw [e3]; exact h2, h3⟩
theorem MP.obj_at {t : TO} {p : Nat} (H : MP W h A m f ts) (hp : ts[p]? = some t) (h1 : (t.cl == 100) = false) : Calls Tryz.prog 32 #[.pointer (some ⟨h, 0, none⟩), .int .i64 ((p : Int) + 1)] W fun e w' => e = .returned (.pointer (some ⟨t.b, 0, none⟩)) /\ w' = W := by
 have ho : (ts.map TO.os)[p]? = some t.os := by rw [List.getElem?_map, hp]; rfl
 have := H.mm.obj p t.os ho (by rw [TO.os_obj h1]; show (16 : Nat) ≠ 3; decide)
 rw [TO.os_b] at this
 exact this
theorem MP.of_at {t : TO} {p : Nat} (H : MP W h A m f ts) (hp : ts[p]? = some t) (h1 : (t.cl == 100) = false) (s : ByteArray) : Calls Tryz.prog 14 #[.pointer (some ⟨h, 0, none⟩), valV (9, (p : Int) + 1, s)] W fun e w' => e = .returned (.pointer (some ⟨t.b, 0, none⟩)) /\ Below W.heap.size W w' := by
 have ho : (ts.map TO.os)[p]? = some t.os := by rw [List.getElem?_map, hp]; rfl
 have := H.mm.of_ p t.os ho (by rw [TO.os_obj h1]; show (16 : Nat) ≠ 3; decide) s
 rw [TO.os_b] at this
 exact this
end
end Go.Proofs.YtahkohfppakaiaaGreatDoor
namespace Go.Proofs.YtahkohfppakaiaaGreatDoor
open Go Go.RowKit
attribute [local go_sem] Oper.semAt_some
section
variable {W W' : World} {h A m : Nat} {f : MF} {os : List OS} {ts ts1 ts2 : List TO}
theorem MP.spend (H : MP W h A m f ts) (hov : f.ov = false) (hs0 : 0 <= f.st) (hs1 : f.st < 4194304) (hl : ts.length < 100000) :
  Calls Tryz.prog 90 #[.pointer (some ⟨m, 0, none⟩), .int .i64 1] W fun e w' => e = .returned (.bool true) /\ MP w' h A m { f with st := f.st + 1 } ts /\ Bk A W w' := by
 obtain ⟨st, hst⟩ : ∃ st, f.st = st := ⟨_, rfl⟩
 have c41 : W.cell? ⟨m, 41, none⟩ = some (.bool false) := by have := H.mm.mb.at_ 41; rw [show (machV (.pointer (some ⟨h, 0, none⟩)) f hostV)[41]? = some (.bool f.ov) from rfl, hov] at this; exact this
 have HE := Veil.mk (And.intro hst hov)
 rw [hst] at hs0 hs1
 have HL := Veil.mk hl
 have HP := Veil.mk H
 clear H hst hov hl
 go_enter Tryz.func90, Tryz.ntmps90
 go_upto_region 3 with (fail)
 obtain ⟨WD, hWD⟩ : ∃ WD, W.drew = WD := ⟨_, rfl⟩
 have hdr : Below W.heap.size W WD := by rw [<- hWD]; exact (Below.refl _ _).drew
 have HM := Veil.mk (HP.out.on hdr)
 have HB := Veil.mk (Bk.of_below (Nat.le_of_lt HP.out.mm.alt) hdr)
 have HC : Veil (WD.cell? ⟨m, 27, none⟩ = some (.int .i64 4194304) /\ WD.cell? ⟨m, 35, none⟩ = some (.int .i64 st)) := ⟨HM.out.mm.mb.at_ 27, by have := HM.out.mm.mb.at_ 35; rw [show (machV (.pointer (some ⟨h, 0, none⟩)) f hostV)[35]? = some (.int .i64 f.st) from rfl, HE.out.1] at this; exact this⟩
 have HWD := Veil.mk hWD
 clear hWD hdr HP c41
 refine wp_region_chain [qi 1, qp m 0, qp m 0, qp m 27, qp m 27, qi 4194304, qp m 0, qp m 0, qp m 35, qi st, qi (4194304 - st), qq (.bool false), qq (.bool false)] (LPh [] (fun _ _ w => w = WD)) [some 15, some 16, some 17, some 18, some 19, some 20, some 21, some 22, some 23, some 24, some 25, some 26, some 14] (curV' _ [some 15, some 16, some 17, some 18, some 19, some 20, some 21, some 22, some 23, some 24, some 25, some 26, some 14]) (by kernel_rfl) rfl rfl (puts_cur _ _) (LPh.start (show W.drew = WD from HWD.out)) ?_ (by kernel_rfl) ?_
 ·refine SY (fun _ S => ?_) ?_
  ·obtain ⟨⟩ := n13 S.hu
   rw [pin S.ha]
   go_simp
   exact S.kL 0
  refine SY (fun _ S => ?_) ?_
  ·obtain ⟨⟩ := n13 S.hu
   rw [pin S.ha]
   go_simp
   exact S.kL 1
  refine SY (fun _ S => ?_) ?_
  ·obtain ⟨⟩ := n13 S.hu
   obtain rfl := S.q 1
   rw [pin S.ha]
   go_simp
   exact S.kL 2
  refine SY (fun _ S => ?_) ?_
  ·obtain ⟨⟩ := n13 S.hu
   obtain rfl := S.q 2
   rw [pin S.ha]
   go_simp
   exact S.kL 3
  refine SY (fun _ S => ?_) ?_
  ·obtain ⟨⟩ := n13 S.hu
   obtain rfl := S.q 3
   rw [pin S.ha]
   go_simp
   exact S.kL 4
  refine SY (fun w' S => ?_) ?_
  ·obtain ⟨⟩ := n13 S.hu
   obtain rfl := S.q 4
   have hst := S.hI.ph.btw1 0 (.inl rfl) (.inl rfl)
   have hst' : WD = w' := (show w' = WD from hst).symm
   clear hst
   subst hst'
   have c0 := HC.out.1
   rw [pin S.ha]
   go_simp
   exact S.kL 5
  refine SY (fun _ S => ?_) ?_
  ·obtain ⟨⟩ := n13 S.hu
   rw [pin S.ha]
   go_simp
   exact S.kL 6
  refine SY (fun _ S => ?_) ?_
  ·obtain ⟨⟩ := n13 S.hu
   obtain rfl := S.q 6
   rw [pin S.ha]
   go_simp
   exact S.kL 7
  refine SY (fun _ S => ?_) ?_
  ·obtain ⟨⟩ := n13 S.hu
   obtain rfl := S.q 7
   rw [pin S.ha]
   go_simp
   exact S.kL 8
  refine SY (fun w' S => ?_) ?_
  ·obtain ⟨⟩ := n13 S.hu
   obtain rfl := S.q 8
   have hst := S.hI.ph.btw1 0 (.inl rfl) (.inl rfl)
   have hst' : WD = w' := (show w' = WD from hst).symm
   clear hst
   subst hst'
   have c0 := HC.out.2
   rw [pin S.ha]
   go_simp
   exact S.kL 9
  refine SY (fun _ S => ?_) ?_
  ·obtain ⟨⟩ := n13 S.hu
   obtain rfl := S.q 5
   obtain rfl := S.q 9
   have hst := S.hI.ph.btw1 0 (.inl rfl) (.inl rfl)
   clear hst
   have hw9 : IntKind.i64.wrap (4194304 - st) = 4194304 - st := IntWalk.i64_in _ (by omega)
   rw [pin S.ha]
   go_simp
   try simp only [hw9]
   exact S.kL 10
  refine SY (fun _ S => ?_) ?_
  ·obtain ⟨⟩ := n13 S.hu
   obtain rfl := S.q 0
   obtain rfl := S.q 10
   have hst := S.hI.ph.btw1 0 (.inl rfl) (.inl rfl)
   clear hst
   have hw9 : decide (4194304 - st < 1) = false := by simp; omega
   rw [pin S.ha]
   go_simp
   try simp only [hw9]
   exact S.kL 11
  refine SY (fun _ S => ?_) ?_
  ·obtain ⟨⟩ := n13 S.hu
   obtain rfl := S.q 11
   rw [pin S.ha]
   go_simp
   exact S.kL 12
  exact Steps.nil
 ·intro us wE hus dd hD2 hJ
  obtain ⟨⟩ := n13 hus
  have q1 := hJ.ph.all (fun c hc => by cases hc)
  obtain rfl := hJ.vq 0 hD2
  obtain rfl := hJ.vq 1 hD2
  obtain rfl := hJ.vq 2 hD2
  obtain rfl := hJ.vq 3 hD2
  obtain rfl := hJ.vq 4 hD2
  obtain rfl := hJ.vq 5 hD2
  obtain rfl := hJ.vq 6 hD2
  obtain rfl := hJ.vq 7 hD2
  obtain rfl := hJ.vq 8 hD2
  obtain rfl := hJ.vq 9 hD2
  obtain rfl := hJ.vq 10 hD2
  obtain rfl := hJ.vq 11 hD2
  obtain rfl := hJ.vq 12 hD2
  clear hJ hD2
  have hq : wE = WD := q1
  clear q1
  simp only [puts, setAll, List.setIfInBounds_toArray, List.set_cons_zero, List.set_cons_succ]
  subst hq
  clear HC
  have cs := HM.out.mm.mb.at_ 35
  have cf := HM.out.mm.mb.free 35
  rw [show (machV (.pointer (some ⟨h, 0, none⟩)) f hostV)[35]? = some (.int .i64 f.st) from rfl, HE.out.1] at cs
  go_upto_region 7 with (fail)
  clear cs cf
  have h2 := HM.out.setM 35 (.int .i64 (st + 1)) { f with st := st + 1 } rfl
  obtain ⟨w2, hw2⟩ : ∃ w2, wE.setCell ⟨m, 35, none⟩ (.int .i64 (st + 1)) = w2 := ⟨_, rfl⟩
  rw [hw2] at h2 ⊢
  have c0 : w2.cell? ⟨m, 0, none⟩ = some (.pointer (some ⟨h, 0, none⟩)) := h2.1.mm.mb.at_ 0
  have c41 : w2.cell? ⟨m, 41, none⟩ = some (.bool false) := by have := h2.1.mm.mb.at_ 41; rw [show (machV (.pointer (some ⟨h, 0, none⟩)) { f with st := st + 1 } hostV)[41]? = some (.bool f.ov) from rfl, HE.out.2] at this; exact this
  obtain ⟨cv, fv, rv, hp⟩ := h2.1.mm.hp
  have a0 : w2.cell? ⟨h, 0, none⟩ = some (.pointer (some ⟨A, 0, none⟩)) := hp.hb.at_ 0
  have HCO := Veil.mk (count_any A A cv fv rv _ w2 hp.ar)
  have hcl : ((((ts.map TO.os).length : Nat) : Int) <= 2097152) := by rw [List.length_map]; have := HL.out; omega
  obtain ⟨cn, hcn⟩ : ∃ cn : Int, (((ts.map TO.os).length : Nat) : Int) = cn := ⟨_, rfl⟩
  rw [hcn] at hcl
  have HCO : Veil (Calls Tryz.prog 123 #[.pointer (some ⟨A, 0, none⟩)] w2 fun e w' => e = .returned (.int .i64 cn) /\ w' = w2) := ⟨by rw [<- hcn]; exact HCO.out⟩
  have H2 := Veil.mk h2
  clear h2 hp hcn hw2
  go_wp2_with (go_at_call 123; ((with_reducible refine HCO.out.mono ?_); rintro e w3 ⟨rfl, h9⟩; subst w3))
  exact bodyPost_ret (v := .bool true) (by simp [results, Tryz.results90, go_sem]) rfl ⟨rfl, by rw [HE.out.1]; exact H2.out.1, HB.out.trans H2.out.2⟩
theorem MP.begin (H : MP W h A m f ts) (hov : f.ov = false) (hs0 : 0 <= f.dp) (hs1 : f.dp < 20) :
  Calls Tryz.prog 91 #[.pointer (some ⟨m, 0, none⟩)] W fun e w' => e = .returned (.bool true) /\ MP w' h A m { f with dp := f.dp + 1 } ts /\ Bk A W w' := by
 obtain ⟨dp, hst⟩ : ∃ dp, f.dp = dp := ⟨_, rfl⟩
 have c41 : W.cell? ⟨m, 41, none⟩ = some (.bool false) := by have := H.mm.mb.at_ 41; rw [show (machV (.pointer (some ⟨h, 0, none⟩)) f hostV)[41]? = some (.bool f.ov) from rfl, hov] at this; exact this
 have HE := Veil.mk (And.intro hst hov)
 rw [hst] at hs0 hs1
 have HP := Veil.mk H
 clear H hst hov
 go_enter Tryz.func91, Tryz.ntmps91
 go_upto_region 3 with (fail)
 obtain ⟨WD, hWD⟩ : ∃ WD, W.drew = WD := ⟨_, rfl⟩
 have hdr : Below W.heap.size W WD := by rw [<- hWD]; exact (Below.refl _ _).drew
 have HM := Veil.mk (HP.out.on hdr)
 have HB := Veil.mk (Bk.of_below (Nat.le_of_lt HP.out.mm.alt) hdr)
 have HC : Veil (WD.cell? ⟨m, 42, none⟩ = some (.int .i64 dp) /\ WD.cell? ⟨m, 28, none⟩ = some (.int .i64 20)) := ⟨by have := HM.out.mm.mb.at_ 42; rw [show (machV (.pointer (some ⟨h, 0, none⟩)) f hostV)[42]? = some (.int .i64 f.dp) from rfl, HE.out.1] at this; exact this, HM.out.mm.mb.at_ 28⟩
 have HWD := Veil.mk hWD
 clear hWD hdr HP c41
 refine wp_region_chain [qp m 0, qp m 0, qp m 42, qi dp, qp m 0, qp m 0, qp m 27, qp m 28, qi 20, qq (.bool false)] (LPh [] (fun _ _ w => w = WD)) [some 7, some 8, some 9, some 10, some 11, some 12, some 13, some 14, some 15, some 16] (curV' _ [some 7, some 8, some 9, some 10, some 11, some 12, some 13, some 14, some 15, some 16]) (by kernel_rfl) rfl rfl (puts_cur _ _) (LPh.start (show W.drew = WD from HWD.out)) ?_ (by kernel_rfl) ?_
 ·refine SY (fun _ S => ?_) ?_
  ·obtain ⟨⟩ := n10 S.hu
   rw [pin S.ha]
   go_simp
   exact S.kL 0
  refine SY (fun _ S => ?_) ?_
  ·obtain ⟨⟩ := n10 S.hu
   obtain rfl := S.q 0
   rw [pin S.ha]
   go_simp
   exact S.kL 1
  refine SY (fun _ S => ?_) ?_
  ·obtain ⟨⟩ := n10 S.hu
   obtain rfl := S.q 1
   rw [pin S.ha]
   go_simp
   exact S.kL 2
  refine SY (fun w' S => ?_) ?_
  ·obtain ⟨⟩ := n10 S.hu
   obtain rfl := S.q 2
   have hst := S.hI.ph.btw1 0 (.inl rfl) (.inl rfl)
   have hst' : WD = w' := (show w' = WD from hst).symm
   clear hst
   subst hst'
   have c0 := HC.out.1
   rw [pin S.ha]
   go_simp
   exact S.kL 3
  refine SY (fun _ S => ?_) ?_
  ·obtain ⟨⟩ := n10 S.hu
   rw [pin S.ha]
   go_simp
   exact S.kL 4
  refine SY (fun _ S => ?_) ?_
  ·obtain ⟨⟩ := n10 S.hu
   obtain rfl := S.q 4
   rw [pin S.ha]
   go_simp
   exact S.kL 5
  refine SY (fun _ S => ?_) ?_
  ·obtain ⟨⟩ := n10 S.hu
   obtain rfl := S.q 5
   rw [pin S.ha]
   go_simp
   exact S.kL 6
  refine SY (fun _ S => ?_) ?_
  ·obtain ⟨⟩ := n10 S.hu
   obtain rfl := S.q 6
   rw [pin S.ha]
   go_simp
   exact S.kL 7
  refine SY (fun w' S => ?_) ?_
  ·obtain ⟨⟩ := n10 S.hu
   obtain rfl := S.q 7
   have hst := S.hI.ph.btw1 0 (.inl rfl) (.inl rfl)
   have hst' : WD = w' := (show w' = WD from hst).symm
   clear hst
   subst hst'
   have c0 := HC.out.2
   rw [pin S.ha]
   go_simp
   exact S.kL 8
  refine SY (fun _ S => ?_) ?_
  ·obtain ⟨⟩ := n10 S.hu
   obtain rfl := S.q 3
   obtain rfl := S.q 8
   have hst := S.hI.ph.btw1 0 (.inl rfl) (.inl rfl)
   clear hst
   have hw9 : decide (20 <= dp) = false := by simp; omega
   rw [pin S.ha]
   go_simp
   try simp only [hw9]
   exact S.kL 9
  exact Steps.nil
 ·intro us wE hus dd hD2 hJ
  obtain ⟨⟩ := n10 hus
  have q1 := hJ.ph.all (fun c hc => by cases hc)
  obtain rfl := hJ.vq 0 hD2
  obtain rfl := hJ.vq 1 hD2
  obtain rfl := hJ.vq 2 hD2
  obtain rfl := hJ.vq 3 hD2
  obtain rfl := hJ.vq 4 hD2
  obtain rfl := hJ.vq 5 hD2
  obtain rfl := hJ.vq 6 hD2
  obtain rfl := hJ.vq 7 hD2
  obtain rfl := hJ.vq 8 hD2
  obtain rfl := hJ.vq 9 hD2
  clear hJ hD2
  have hq : wE = WD := q1
  clear q1
  simp only [puts, setAll, List.setIfInBounds_toArray, List.set_cons_zero, List.set_cons_succ]
  subst hq
  clear HC
  have cs := HM.out.mm.mb.at_ 42
  have cf := HM.out.mm.mb.free 42
  rw [show (machV (.pointer (some ⟨h, 0, none⟩)) f hostV)[42]? = some (.int .i64 f.dp) from rfl, HE.out.1] at cs
  have h2 := HM.out.setM 42 (.int .i64 (dp + 1)) { f with dp := dp + 1 } rfl
  have H2 := Veil.mk h2
  clear h2
  go_wp2
  exact bodyPost_ret (v := .bool true) (by simp [results, Tryz.results91, go_sem]) rfl ⟨rfl, by rw [HE.out.1]; exact H2.out.1, HB.out.trans H2.out.2⟩
theorem MP.endD (H : MP W h A m f ts) (hs0 : 0 < f.dp) (hs1 : f.dp <= 20) (u : FrameMode) :
  CallsD Tryz.prog 92 #[.pointer (some ⟨m, 0, none⟩)] u W fun e u' w' => u' = u /\ e = .returned (.tuple #[]) /\ MP w' h A m { f with dp := f.dp - 1 } ts /\ Bk A W w' := by
 obtain ⟨dp, hst⟩ : ∃ dp, f.dp = dp := ⟨_, rfl⟩
 have cs := H.mm.mb.at_ 42
 have cf := H.mm.mb.free 42
 rw [show (machV (.pointer (some ⟨h, 0, none⟩)) f hostV)[42]? = some (.int .i64 f.dp) from rfl, hst] at cs
 have h2 := H.setM 42 (.int .i64 (dp - 1)) { f with dp := dp - 1 } rfl
 have H2 := Veil.mk h2
 rw [hst] at hs0 hs1
 have HE := Veil.mk hst
 clear h2 hst H
 suffices hsf : CallsD Tryz.prog 92 #[.pointer (some ⟨m, 0, none⟩)] u W fun e u' w' => u' = u /\ (e = .returned (.tuple #[]) /\ MP w' h A m { f with dp := f.dp - 1 } ts /\ Bk A W w') from hsf
 go_enter_d Tryz.func92, Tryz.ntmps92
 go_wp2
 exact bodyPost_end (results_none rfl _ _ _) rfl ⟨rfl, by rw [HE.out]; exact H2.out.1, H2.out.2⟩
end
theorem kp_grown {w w' : World} {B n sz : Nat} {T : TypeId} {v : Value} {xs : List Value} (h : w.ownsRow B T sz v n xs) (hg : w.grownBy w' v.ownBlock) : Kp [T] w w' := fun k t hl ht => hg.block k (lab_lt hl) (fun e => by
 have e2 : t = T := by
  by_cases c : t = T
  ·exact c
  ·exact absurd rfl (hl.ne (own_lab h k e.symm) c)
 subst e2
 simp at ht)
structure ApT (WD : World) (B : Nat) (T : TypeId) (sz n : Nat) (pv : Value) (xs cs : List Value) (ib ia : Nat) (d : Nat -> Bool) (us : Nat -> Value) (w : World) : Prop where
 z : d ia = false -> w.ownsRow B T sz pv n xs
 b : d ib = true -> ∃ g, us ib = .slice (some ⟨g, 0, none⟩) 1 1 /\ (d ia = false -> Lab w g T /\ ∀ j u, cs[j]? = some u -> w.cell? ((⟨g, 0, none⟩ : Addr).add j) = some u)
 s : d ia = true -> d ib = true /\ ∃ r cap, us ia = .slice (some ⟨r, 0, none⟩) (n + 1) cap /\ w.ownsRow B T sz (.slice (some ⟨r, 0, none⟩) (n + 1) cap) (n + 1) (xs ++ cs) /\ (pv.ownBlock = some r \/ WD.heap.size <= r)
section
variable {WD : World} {B : Nat} {T : TypeId} {sz n : Nat} {pv : Value} {xs cs : List Value} {ib ia : Nat} {d : Nat -> Bool} {us : Nat -> Value} {w w' : World}
theorem ApT.other (h : ApT WD B T sz n pv xs cs ib ia d us w) (i : Nat) (v : Value) (hb : i ≠ ib) (ha : i ≠ ia) {ts : List TypeId} (hk : Kp ts w w') (ht : ts.contains T = false) : ApT WD B T sz n pv xs cs ib ia (upd d i true) (upd us i v) w' := by
 refine ⟨fun e => ?_, fun e => ?_, fun e => ?_⟩
 ·rw [upd_ne _ _ (Ne.symm ha)] at e
  exact own_kp (h.z e) hk ht
 ·rw [upd_ne _ _ (Ne.symm hb)] at e
  rw [upd_ne _ _ (Ne.symm hb), upd_ne _ _ (Ne.symm ha)]
  obtain ⟨g, h1, h2⟩ := h.b e
  refine ⟨g, h1, fun e2 => ?_⟩
  obtain ⟨h3, h4⟩ := h2 e2
  refine ⟨hk.lab h3 ht, fun j u hj => ?_⟩
  have h9 := h4 j u hj
  rw [cell_of_row2] at h9 ⊢
  rw [cell_blk (hk g _ h3 ht)]
  exact h9
 ·rw [upd_ne _ _ (Ne.symm ha)] at e
  rw [upd_ne _ _ (Ne.symm hb), upd_ne _ _ (Ne.symm ha)]
  obtain ⟨h1, r, cap, h2, h3, h4⟩ := h.s e
  exact ⟨h1, r, cap, h2, own_kp h3 hk ht, h4⟩
theorem ApT.mk_ (h : ApT WD B T sz n pv xs cs ib ia d us w) (hba : ib ≠ ia) (hd : d ib = false) : ApT WD B T sz n pv xs cs ib ia (upd d ib true) (upd us ib (.slice (some ⟨w.heap.size, 0, none⟩) 1 1)) (w.alloc (.cells cs.toArray T)) := by
 have hda : d ia = false := by
  cases e : d ia with
  | false => rfl
  | true => rw [(h.s e).1] at hd; cases hd
 refine ⟨fun _ => (h.z hda).alloc _, fun _ => ⟨w.heap.size, upd_same _ _ _, fun _ => ⟨⟨_, _, (Box.new w T cs.toArray)⟩, news_at _ _ rfl _ _⟩⟩, fun e => ?_⟩
 rw [upd_ne _ _ (Ne.symm hba), hda] at e
 cases e
theorem ApT.app (h : ApT WD B T sz n pv xs cs ib ia d us w) (hba : ib ≠ ia) (hsz : WD.heap.size <= w.heap.size) (hb : d ib = true) {r cap : Nat} (ho : w'.ownsRow B T sz (.slice (some ⟨r, 0, none⟩) (n + 1) cap) (n + 1) (xs ++ cs)) (hr : pv.ownBlock = some r \/ r = w.heap.size) : ApT WD B T sz n pv xs cs ib ia (upd d ia true) (upd us ia (.slice (some ⟨r, 0, none⟩) (n + 1) cap)) w' := by
 refine ⟨fun e => ?_, fun _ => ?_, fun _ => ?_⟩
 ·rw [upd_same] at e; cases e
 ·rw [upd_ne _ _ hba]
  obtain ⟨g, h1, h2⟩ := h.b hb
  exact ⟨g, h1, fun e => (by rw [upd_same] at e; cases e)⟩
 ·rw [upd_ne _ _ hba, upd_same]
  exact ⟨hb, r, cap, rfl, ho, hr.imp id (fun e => by omega)⟩
end
abbrev VTy : TypeId := 28
abbrev CTy : TypeId := 113
abbrev vL (v : Vt) : List Value := [.int .i64 v.1, .int .i64 v.2.1, .string v.2.2]
abbrev cL (o : Nat) (this : Vt) (args : Value) (tgt : Vt) : List Value := [.pointer (some ⟨o, 0, none⟩), .int .i64 this.1, .int .i64 this.2.1, .string this.2.2, args, .int .i64 tgt.1, .int .i64 tgt.2.1, .string tgt.2.2]
abbrev callV (o : Nat) (this : Vt) (args : Value) (tgt : Vt) : Value := .agg #[.pointer (some ⟨o, 0, none⟩), .int .i64 this.1, .int .i64 this.2.1, .string this.2.2, args, .int .i64 tgt.1, .int .i64 tgt.2.1, .string tgt.2.2]
def VCf (f : MF) : Nat -> Prop := fun k => f.na.ownBlock = some k \/ f.ca.ownBlock = some k
structure Rest (W : World) (A : Nat) (f : MF) : Prop where
 na : W.ownsRow A CTy 8 f.na 0 []
 ca : W.ownsRow A VTy 3 f.ca 0 []
theorem Rest.lt {W : World} {A : Nat} {f : MF} (h : Rest W A f) {k : Nat} (hk : VCf f k) : A <= k /\ k < W.heap.size := hk.elim (fun e => h.na.lt k e) (fun e => h.ca.lt k e)
section
variable {W W' : World} {h A m : Nat} {f : MF} {os : List OS} {ts ts1 ts2 : List TO}
theorem MP.touchV {S : Nat -> Prop} (H : MP W h A m f ts) (ht : Touch S W W') (hS : ∀ k, S k -> ∃ e, e ∈ kvL /\ Lab W k e) : MP W' h A m f ts := by
 have hA : ¬ S A := fun e => by
  obtain ⟨t, he, hl⟩ := hS A e
  obtain ⟨cv, fv, rv, hp⟩ := H.mm.hp
  exact hp.ar.box.lab.ne hl ((by decide : ∀ e ∈ kvL, 187 ≠ e) t he) rfl
 refine ⟨H.mm.touch ht (fun k hk => ?_), fun t h9 => (H.pr t h9).touch ht (fun k hk e => ?_), fun t h9 k hk => ⟨fun h7 => (H.sep t h9 k hk).1 (FO.touch H.mm.alt ht hA k h7), (H.sep t h9 k hk).2⟩, H.dis, fun q hgq => ?_⟩
 ·obtain ⟨t, he, hl⟩ := hS k hk
  obtain ⟨cv, fv, rv, hp⟩ := H.mm.hp
  refine ⟨fun h9 => AFoot.lab hp.ar hl ((by decide : ∀ e ∈ kvL, e ≠ 187) t he) ((by decide : ∀ e ∈ kvL, e ≠ 138) t he) ((by decide : ∀ e ∈ kvL, e ≠ 3) t he) ((FO.of hp.ar k).1 h9), hl.ne hp.hb.lab ((by decide : ∀ e ∈ kvL, e ≠ 135) t he), hl.ne H.mm.mb.lab ((by decide : ∀ e ∈ kvL, e ≠ 55) t he), fun o ho => hl.ne (H.mm.ob o ho).lab (fun e => ?_)⟩
  subst e
  revert he
  unfold oty
  split <;> decide
 ·obtain ⟨t', he, hl⟩ := hS k e
  exact (H.pr t h9).not_lab hl ((by decide : ∀ e ∈ kvL, e ≠ 177 /\ e ≠ 182 /\ e ≠ 3 /\ e ≠ 58 /\ e ≠ 179) t' he) hk
 ·have G := H.gi q hgq
  refine G.touch H.mm.alt ht hA (fun e => ?_)
  obtain ⟨t', he, hl⟩ := hS _ e
  exact G.off he hl rfl
theorem Bv.touch {V : Nat -> Prop} (ht : Touch V W W') (hA : A <= W.heap.size) (hV : ∀ k, V k -> A <= k) : Bv A V W W' := ⟨ht.below hA hV, fun k _ _ hl hv => ht.block k (lab_lt hl) hv⟩
structure NK (WD : World) (h A m : Nat) (f : MF) (ts : List TO) (cc cv : List Value) (d : Nat -> Bool) (us : Nat -> Value) (w : World) : Prop where
 n : ApT WD A CTy 8 0 f.na [] cc 7 8 d us w
 c : ApT WD A VTy 3 0 f.ca [] cv 14 15 d us w
 mp : MP w h A m { f with na := if d 18 = true then us 8 else f.na, ca := if d 21 = true then us 15 else f.ca } ts
 bv : Bv A (VCf f) WD w
 sz : WD.heap.size <= w.heap.size
variable {WD w w' : World} {cc cv : List Value} {d : Nat -> Bool} {us : Nat -> Value}
theorem NK.pure (H : NK WD h A m f ts cc cv d us w) (i : Nat) (v : Value) (hi : i ≠ 7 /\ i ≠ 8 /\ i ≠ 14 /\ i ≠ 15 /\ i ≠ 18 /\ i ≠ 21) : NK WD h A m f ts cc cv (upd d i true) (upd us i v) w := by
 obtain ⟨h7, h8, h14, h15, h18, h21⟩ := hi
 refine ⟨H.n.other i v h7 h8 (ts := []) Kp.refl rfl, H.c.other i v h14 h15 (ts := []) Kp.refl rfl, ?_, H.bv, H.sz⟩
 rw [upd_ne _ _ (Ne.symm h18), upd_ne _ _ (Ne.symm h21), upd_ne _ _ (Ne.symm h8), upd_ne _ _ (Ne.symm h15)]
 exact H.mp
theorem NK.mk7 (H : NK WD h A m f ts cc cv d us w) (hd : d 7 = false) : NK WD h A m f ts cc cv (upd d 7 true) (upd us 7 (.slice (some ⟨w.heap.size, 0, none⟩) 1 1)) (w.alloc (.cells cc.toArray CTy)) := by
 have hb : Below w.heap.size w (w.alloc (.cells cc.toArray CTy)) := (Below.refl _ _).alloc (Nat.le_refl _) _
 refine ⟨H.n.mk_ (by decide) hd, H.c.other 7 _ (by decide) (by decide) (ts := []) (Kp.of_below hb) rfl, ?_, H.bv.trans ((Bk.of_below (Nat.le_of_lt H.mp.mm.alt) hb).bv (fun _ => False)) (fun k hk => hk.elim), Nat.le_trans H.sz hb.size⟩
 rw [upd_ne _ _ (by decide), upd_ne _ _ (by decide), upd_ne _ _ (by decide), upd_ne _ _ (by decide)]
 exact H.mp.on hb
theorem NK.mk14 (H : NK WD h A m f ts cc cv d us w) (hd : d 14 = false) : NK WD h A m f ts cc cv (upd d 14 true) (upd us 14 (.slice (some ⟨w.heap.size, 0, none⟩) 1 1)) (w.alloc (.cells cv.toArray VTy)) := by
 have hb : Below w.heap.size w (w.alloc (.cells cv.toArray VTy)) := (Below.refl _ _).alloc (Nat.le_refl _) _
 refine ⟨H.n.other 14 _ (by decide) (by decide) (ts := []) (Kp.of_below hb) rfl, H.c.mk_ (by decide) hd, ?_, H.bv.trans ((Bk.of_below (Nat.le_of_lt H.mp.mm.alt) hb).bv (fun _ => False)) (fun k hk => hk.elim), Nat.le_trans H.sz hb.size⟩
 rw [upd_ne _ _ (by decide), upd_ne _ _ (by decide), upd_ne _ _ (by decide), upd_ne _ _ (by decide)]
 exact H.mp.on hb
theorem NK.app8 (H : NK WD h A m f ts cc cv d us w) (h7 : d 7 = true) (h8 : d 8 = false) (h18 : d 18 = false) {r cap : Nat} (ho : w'.ownsRow A CTy 8 (.slice (some ⟨r, 0, none⟩) (0 + 1) cap) (0 + 1) ([] ++ cc)) (hg : w.grownBy w' f.na.ownBlock) (hr : f.na.ownBlock = some r \/ r = w.heap.size) : NK WD h A m f ts cc cv (upd d 8 true) (upd us 8 (.slice (some ⟨r, 0, none⟩) (0 + 1) cap)) w' := by
 have ho0 := H.n.z h8
 have ht : Touch (fun k => f.na.ownBlock = some k) w w' := Touch.of_grown hg (fun k hk => hk)
 refine ⟨H.n.app (by decide) H.sz h7 ho hr, H.c.other 8 _ (by decide) (by decide) (kp_grown ho0 hg) rfl, ?_, H.bv.trans (Bv.touch ht (Nat.le_of_lt H.mp.mm.alt) (fun k hk => (ho0.lt k hk).1)) (fun k hk => .inl (.inl hk)), Nat.le_trans H.sz hg.size⟩
 rw [show upd d 8 true 18 = false from by rw [upd_ne _ _ (by decide)]; exact h18, show upd d 8 true 21 = d 21 from upd_ne _ _ (by decide), show upd us 8 _ 15 = us 15 from upd_ne _ _ (by decide)]
 have := H.mp
 rw [h18] at this
 exact this.touchV ht (fun k hk => ⟨CTy, by decide, own_lab ho0 k hk⟩)
theorem NK.app15 (H : NK WD h A m f ts cc cv d us w) (h14 : d 14 = true) (h15 : d 15 = false) (h18 : d 18 = false) (h21 : d 21 = false) {r cap : Nat} (ho : w'.ownsRow A VTy 3 (.slice (some ⟨r, 0, none⟩) (0 + 1) cap) (0 + 1) ([] ++ cv)) (hg : w.grownBy w' f.ca.ownBlock) (hr : f.ca.ownBlock = some r \/ r = w.heap.size) : NK WD h A m f ts cc cv (upd d 15 true) (upd us 15 (.slice (some ⟨r, 0, none⟩) (0 + 1) cap)) w' := by
 have ho0 := H.c.z h15
 have ht : Touch (fun k => f.ca.ownBlock = some k) w w' := Touch.of_grown hg (fun k hk => hk)
 refine ⟨H.n.other 15 _ (by decide) (by decide) (kp_grown ho0 hg) rfl, H.c.app (by decide) H.sz h14 ho hr, ?_, H.bv.trans (Bv.touch ht (Nat.le_of_lt H.mp.mm.alt) (fun k hk => (ho0.lt k hk).1)) (fun k hk => .inl (.inr hk)), Nat.le_trans H.sz hg.size⟩
 rw [show upd d 15 true 18 = false from by rw [upd_ne _ _ (by decide)]; exact h18, show upd d 15 true 21 = false from by rw [upd_ne _ _ (by decide)]; exact h21]
 have := H.mp
 rw [h18, h21] at this
 exact this.touchV ht (fun k hk => ⟨VTy, by decide, own_lab ho0 k hk⟩)
theorem Kp.setM (H : MP w h A m f ts) (i : Nat) (u : Value) : Kp [55] w (w.setCell ⟨m, i, none⟩ u) := Kp.put H.mm.mb.lab rfl i u
theorem NK.set18 (H : NK WD h A m f ts cc cv d us w) (h18 : d 18 = false) (v : Value) : NK WD h A m f ts cc cv (upd d 18 true) (upd us 18 v) (w.setCell ⟨m, 44, none⟩ (us 8)) := by
 have h9 := H.mp
 rw [h18] at h9
 have hk := Kp.setM h9 44 (us 8)
 have h2 := h9.setM 44 (us 8) { f with na := us 8, ca := if d 21 = true then us 15 else f.ca } rfl
 refine ⟨H.n.other 18 _ (by decide) (by decide) hk rfl, H.c.other 18 _ (by decide) (by decide) hk rfl, ?_, H.bv.trans (h2.2.bv (fun _ => False)) (fun k hk => hk.elim), Nat.le_trans H.sz h2.2.bel.size⟩
 rw [upd_same, upd_ne _ _ (by decide), upd_ne _ _ (by decide), upd_ne _ _ (by decide)]
 exact h2.1
theorem NK.set21 (H : NK WD h A m f ts cc cv d us w) (h21 : d 21 = false) (v : Value) : NK WD h A m f ts cc cv (upd d 21 true) (upd us 21 v) (w.setCell ⟨m, 45, none⟩ (us 15)) := by
 have h9 := H.mp
 rw [h21] at h9
 have hk := Kp.setM h9 45 (us 15)
 have h2 := h9.setM 45 (us 15) { f with na := if d 18 = true then us 8 else f.na, ca := us 15 } rfl
 refine ⟨H.n.other 21 _ (by decide) (by decide) hk rfl, H.c.other 21 _ (by decide) (by decide) hk rfl, ?_, H.bv.trans (h2.2.bv (fun _ => False)) (fun k hk => hk.elim), Nat.le_trans H.sz h2.2.bel.size⟩
 rw [upd_same, upd_ne _ _ (by decide), upd_ne _ _ (by decide), upd_ne _ _ (by decide)]
 exact h2.1
theorem NK.c44 (H : NK WD h A m f ts cc cv d us w) (hd : d 18 = false) : w.cell? ⟨m, 44, none⟩ = some f.na := by
 have h9 := H.mp
 rw [hd] at h9
 exact h9.mm.mb.at_ 44
theorem NK.c45 (H : NK WD h A m f ts cc cv d us w) (hd : d 21 = false) : w.cell? ⟨m, 45, none⟩ = some f.ca := by
 have h9 := H.mp
 rw [hd] at h9
 exact h9.mm.mb.at_ 45
theorem cL_one {o : Nat} {this tgt : Vt} {args : Value} (h : args.oneCell' = true) : ∀ u ∈ cL o this args tgt, u.oneCell' = true := fun u hu => by
 simp only [List.mem_cons, List.not_mem_nil, or_false] at hu
 rcases hu with rfl | rfl | rfl | rfl | rfl | rfl | rfl | rfl
 all_goals first | exact h | rfl
theorem NK.start (H : MP WD h A m f ts) (hr : Rest WD A f) : NK WD h A m f ts cc cv (fun _ => false) us WD :=
 ⟨⟨fun _ => hr.na, fun e => (by cases e), fun e => (by cases e)⟩, ⟨fun _ => hr.ca, fun e => (by cases e), fun e => (by cases e)⟩, H, ⟨Below.refl _ _, fun _ _ _ _ _ => rfl⟩, Nat.le_refl _⟩
end
theorem Tryz.infoCl : (Tryz.prog.info? 113).map (fun i => (i.zero, i.size, i.bytes)) = some (some (.agg #[.pointer none, .int .i64 0, .int .i64 0, .string ⟨#[]⟩, .slice none 0 0, .int .i64 0, .int .i64 0, .string ⟨#[]⟩]), 8, 96) := by kernel_rfl
structure DoP (W0 : World) (h A m : Nat) (f1 : MF) (V : Nat -> Prop) (R : (Nat -> Prop) -> List TO -> Int -> World -> Prop) (E : Nat -> Prop) (w : World) : Prop where
 x : ∃ ts2 st2 D, MP w h A m { f1 with st := st2 } ts2 /\ Bv A V W0 w /\ R D ts2 st2 w /\ ∀ k, D k -> k < w.heap.size /\ ¬ E k /\ (V k \/ W0.heap.size <= k)
def RStay (A : Nat) (R : (Nat -> Prop) -> List TO -> Int -> World -> Prop) : Prop := ∀ D ts2 st2 w1 w2 V', R D ts2 st2 w1 -> Bv A V' w1 w2 -> (∀ k, D k -> ¬ V' k) -> R D ts2 st2 w2
section
variable {W0 w w' : World} {h A m : Nat} {f1 : MF} {V E : Nat -> Prop} {R : (Nat -> Prop) -> List TO -> Int -> World -> Prop}
theorem DoP.on (H : DoP W0 h A m f1 V R E w) (hR : RStay A R) (hb : Below w.heap.size w w') : DoP W0 h A m f1 V R E w' := by
 obtain ⟨ts2, st2, D, h1, h2, h3, h4⟩ := H.x
 have hA := Nat.le_of_lt h1.mm.alt
 exact ⟨ts2, st2, D, h1.on hb, h2.trans ((Bk.of_below hA hb).bv (fun _ => False)) (fun k hk => hk.elim), hR D ts2 st2 w w' _ h3 ((Bk.of_below hA hb).bv (fun _ => False)) (fun k _ h9 => h9), fun k hk => ⟨Nat.lt_of_lt_of_le (h4 k hk).1 hb.size, (h4 k hk).2⟩⟩
theorem DoP.excl (H : DoP W0 h A m f1 V R E w) {E' : Nat -> Prop} (hE : ∀ k, E' k -> E k \/ w.heap.size <= k) : DoP W0 h A m f1 V R E' w := by
 obtain ⟨ts2, st2, D, h1, h2, h3, h4⟩ := H.x
 refine ⟨ts2, st2, D, h1, h2, h3, fun k hk => ⟨(h4 k hk).1, fun h9 => ?_, (h4 k hk).2.2⟩⟩
 rcases hE k h9 with h8 | h8
 ·exact (h4 k hk).2.1 h8
 ·have := (h4 k hk).1
  omega
theorem DoP.put (H : DoP W0 h A m f1 V R E w) (hR : RStay A R) {g : Nat} (hl : Lab w g VTy) (hg : E g) (hn : W0.heap.size <= g) (hA : A <= W0.heap.size) (i : Nat) (u : Value) : DoP W0 h A m f1 V R E (w.setCell ⟨g, i, none⟩ u) := by
 obtain ⟨ts2, st2, D, h1, h2, h3, h4⟩ := H.x
 have ht : Touch (fun k => k = g) w (w.setCell ⟨g, i, none⟩ u) := Touch.put (S := fun k => k = g) rfl _ _
 have hbv : Bv A (fun k => k = g) w (w.setCell ⟨g, i, none⟩ u) := Bv.touch ht (Nat.le_of_lt h1.mm.alt) (fun k hk => by omega)
 refine ⟨ts2, st2, D, h1.putv hl i u, h2.trans hbv (fun k hk => .inr (by omega)), hR D ts2 st2 _ _ _ h3 hbv (fun k hk h9 => (h4 k hk).2.1 (by rw [h9]; exact hg)), fun k hk => ⟨?_, (h4 k hk).2⟩⟩
 rw [show (w.setCell ⟨g, i, none⟩ u).heap.size = w.heap.size from by simp]
 exact (h4 k hk).1
end
structure BX (WD : World) (h A m : Nat) (f1 : MF) (V : Nat -> Prop) (R : (Nat -> Prop) -> List TO -> Int -> World -> Prop) (x : Vt) (d : Nat -> Bool) (us : Nat -> Value) (w : World) : Prop where
 s0 : d 13 = false -> Below WD.heap.size WD w
 s1 : d 13 = true -> DoP WD h A m f1 V R (fun k => d 17 = true /\ us 17 = .pointer (some ⟨k, 0, none⟩)) w
 b : d 17 = true -> ∃ g, us 17 = .pointer (some ⟨g, 0, none⟩) /\ WD.heap.size <= g /\ (d 18 = false -> Box w g VTy #[.int .i64 0, .int .i64 0, .string ⟨#[]⟩]) /\ (d 18 = true -> Box w g VTy #[.int .i64 x.1, .int .i64 x.2.1, .string x.2.2])
 sz : WD.heap.size <= w.heap.size
section
variable {WD w w' : World} {h A m : Nat} {f1 : MF} {V : Nat -> Prop} {R : (Nat -> Prop) -> List TO -> Int -> World -> Prop} {x : Vt} {d : Nat -> Bool} {us : Nat -> Value}
theorem BX.pure (H : BX WD h A m f1 V R x d us w) (i : Nat) (v : Value) (hi : i ≠ 13 /\ i ≠ 17 /\ i ≠ 18) : BX WD h A m f1 V R x (upd d i true) (upd us i v) w := by
 obtain ⟨h13, h17, h18⟩ := hi
 refine ⟨fun e => ?_, fun e => ?_, fun e => ?_, H.sz⟩
 ·rw [upd_ne _ _ (Ne.symm h13)] at e; exact H.s0 e
 ·rw [upd_ne _ _ (Ne.symm h13)] at e
  rw [upd_ne _ _ (Ne.symm h17), upd_ne _ _ (Ne.symm h17)]
  exact H.s1 e
 ·rw [upd_ne _ _ (Ne.symm h17)] at e
  rw [upd_ne _ _ (Ne.symm h17), upd_ne _ _ (Ne.symm h18)]
  exact H.b e
theorem BX.mk17 (H : BX WD h A m f1 V R x d us w) (hR : RStay A R) (h18 : d 18 = false) : BX WD h A m f1 V R x (upd d 17 true) (upd us 17 (.pointer (some ⟨w.heap.size, 0, none⟩))) (w.alloc (.cells #[.int .i64 0, .int .i64 0, .string ⟨#[]⟩] VTy)) := by
 have hb : Below w.heap.size w (w.alloc (.cells #[.int .i64 0, .int .i64 0, .string ⟨#[]⟩] VTy)) := (Below.refl _ _).alloc (Nat.le_refl _) _
 refine ⟨fun e => ?_, fun e => ?_, fun _ => ⟨w.heap.size, upd_same _ _ _, H.sz, fun _ => Box.new w VTy _, fun e => ?_⟩, Nat.le_trans H.sz hb.size⟩
 ·rw [upd_ne _ _ (by decide)] at e
  exact (H.s0 e).trans (hb.mono H.sz)
 ·rw [upd_ne _ _ (by decide)] at e
  refine DoP.on (DoP.excl (H.s1 e) (fun k hk => ?_)) hR hb
  obtain ⟨-, hk⟩ := hk
  rw [upd_same] at hk
  injection hk with hk; injection hk with hk; injection hk with hk
  exact .inr (by omega)
 ·rw [upd_ne _ _ (by decide), h18] at e
  cases e
theorem BX.call (H : BX WD h A m f1 V R x d us w) (hA : A <= WD.heap.size) (hd : d 13 = false) (h18 : d 18 = false) (hV : ∀ k, V k -> k < WD.heap.size) (hq : DoP w h A m f1 V R (fun _ => False) w') (v : Value) : BX WD h A m f1 V R x (upd d 13 true) (upd us 13 v) w' := by
 obtain ⟨ts2, st2, D, h1, h2, h3, h4⟩ := hq.x
 have hs0 := H.s0 hd
 refine ⟨fun e => ?_, fun _ => ?_, fun e => ?_, Nat.le_trans H.sz h2.bel.size⟩
 ·rw [upd_same] at e; cases e
 ·refine ⟨ts2, st2, D, h1, ((Bk.of_below hA hs0).bv V).trans h2 (fun k hk => .inl hk), h3, fun k hk => ⟨(h4 k hk).1, fun h9 => ?_, (h4 k hk).2.2.imp id (fun h8 => Nat.le_trans H.sz h8)⟩⟩
  rw [upd_ne _ _ (by decide), upd_ne _ _ (by decide)] at h9
  obtain ⟨h17, h9⟩ := h9
  obtain ⟨g, e1, e2, e3, -⟩ := H.b h17
  rw [e1] at h9
  injection h9 with h9; injection h9 with h9; injection h9 with h9
  have hlt := (e3 h18).lt
  rcases (h4 k hk).2.2 with h8 | h8
  ·have := hV k h8
   omega
  ·omega
 ·rw [upd_ne _ _ (by decide)] at e
  rw [upd_ne _ _ (by decide), upd_ne _ _ (by decide)]
  obtain ⟨g, e1, e2, e3, e4⟩ := H.b e
  refine ⟨g, e1, e2, fun h9 => h2.box (e3 h9) (by decide) (fun h8 => by have := hV g h8; omega), fun h9 => ?_⟩
  rw [h18] at h9
  cases h9
theorem BX.sto (H : BX WD h A m f1 V R x d us w) (hR : RStay A R) (hA : A <= WD.heap.size) (h13 : d 13 = true) (h17 : d 17 = true) (h18 : d 18 = false) {g : Nat} (hg : us 17 = .pointer (some ⟨g, 0, none⟩)) (v : Value) : BX WD h A m f1 V R x (upd d 18 true) (upd us 18 v) (((w.setCell ⟨g, 0, none⟩ (.int .i64 x.1)).setCell ⟨g, 1, none⟩ (.int .i64 x.2.1)).setCell ⟨g, 2, none⟩ (.string x.2.2)) := by
 obtain ⟨g2, e1, e2, e3, -⟩ := H.b h17
 rw [hg] at e1
 injection e1 with e1; injection e1 with e1; injection e1 with e1
 subst e1
 have hb := e3 h18
 refine ⟨fun e => ?_, fun _ => ?_, fun _ => ?_, ?_⟩
 ·rw [upd_ne _ _ (by decide), h13] at e; cases e
 ·rw [upd_ne _ _ (by decide), upd_ne _ _ (by decide)]
  exact (((H.s1 h13).put hR hb.lab ⟨h17, hg⟩ e2 hA 0 _).put hR (hb.put 0 _).lab ⟨h17, hg⟩ e2 hA 1 _).put hR ((hb.put 0 _).put 1 _).lab ⟨h17, hg⟩ e2 hA 2 _
 ·rw [upd_ne _ _ (by decide)]
  refine ⟨g, hg, e2, fun e => ?_, fun _ => ((hb.put 0 (.int .i64 x.1)).put 1 (.int .i64 x.2.1)).put 2 (.string x.2.2)⟩
  rw [upd_same] at e; cases e
 ·simp only [World.size_setCell]
  exact H.sz
theorem BX.start : BX WD h A m f1 V R x (fun _ => false) us WD := ⟨fun _ => Below.refl _ _, fun e => (by cases e), fun e => (by cases e), Nat.le_refl _⟩
end
def SqSt (WD : World) (Ps : List (World -> Prop)) : Nat -> (Nat -> Value) -> World -> Prop
 | 0 => fun _ w => w = WD
 | k + 1 => fun _ w => Ps.getD k (fun _ => True) w
theorem method_w {w : World} (m h o : Nat) (p r id n : Int) (nm : ByteArray) (v : Vt) (P1 P2 : World -> Prop) (c0 : w.cell? ⟨m, 0, none⟩ = some (.pointer (some ⟨h, 0, none⟩)))
  (HPR : Veil (∀ W, W = w.drew -> Calls Tryz.prog 37 #[.pointer (some ⟨m, 0, none⟩), .int .i64 p] W fun e w' => e = .returned (.int .i64 r) /\ w' = W))
  (HOB : Veil (∀ W, W = w.drew -> Calls Tryz.prog 32 #[.pointer (some ⟨h, 0, none⟩), .int .i64 r] W fun e w' => e = .returned (.pointer (some ⟨o, 0, none⟩)) /\ w' = W))
  (HNA : Veil (∀ W, W = w.drew -> Calls Tryz.prog 104 #[.pointer (some ⟨m, 0, none⟩), .int .i64 id, .string nm, .int .i64 n, .bool false] W fun e w' => e = .returned (valV v) /\ P1 w'))
  (HOW : Veil (∀ W, P1 W -> Calls Tryz.prog 105 #[.pointer (some ⟨m, 0, none⟩), .pointer (some ⟨o, 0, none⟩), .string nm, valV v, .int .i64 5] W fun e w' => e = .returned (.tuple #[]) /\ P2 w')) :
  Calls Tryz.prog 73 #[.pointer (some ⟨m, 0, none⟩), .int .i64 p, .string nm, .int .i64 id, .int .i64 n] w fun e w' => e = .returned (.tuple #[]) /\ P2 w' := by
 have HC := Veil.mk c0
 clear c0
 go_enter Tryz.func73, Tryz.ntmps73
 go_upto_region 1 with (fail)
 obtain ⟨WD, hWD⟩ : ∃ WD, w.drew = WD := ⟨_, rfl⟩
 have HPR := Veil.mk (HPR.out WD hWD.symm)
 have HOB := Veil.mk (HOB.out WD hWD.symm)
 have HNA := Veil.mk (HNA.out WD hWD.symm)
 have HC0 : Veil (WD.cell? ⟨m, 0, none⟩ = some (.pointer (some ⟨h, 0, none⟩))) := ⟨by rw [<- hWD]; exact HC.out⟩
 have HWD := Veil.mk hWD
 clear hWD HC
 refine wp_region_chain [qp m 0, qp m 0, qp m 0, qp m 0, qp h 0, qp m 0, qi p, qi r, qp o 0, qq (.string nm), qp m 0, qi id, qq (.string nm), qi n, qv v, qq (.tuple #[])] (LPh [14, 15] (SqSt WD [P1, P2])) [some 12, some 13, some 14, some 15, some 16, some 17, some 18, some 19, some 20, some 21, some 22, some 23, some 24, some 25, some 26, some 27] (curV' _ [some 12, some 13, some 14, some 15, some 16, some 17, some 18, some 19, some 20, some 21, some 22, some 23, some 24, some 25, some 26, some 27]) (by kernel_rfl) rfl rfl (puts_cur _ _) (LPh.start (show w.drew = WD from HWD.out)) ?_ (by kernel_rfl) ?_
 ·refine SY (fun _ S => ?_) ?_
  ·obtain ⟨⟩ := n16 S.hu
   rw [pin S.ha]
   go_simp
   exact S.kL 0
  refine SY (fun _ S => ?_) ?_
  ·obtain ⟨⟩ := n16 S.hu
   rw [pin S.ha]
   go_simp
   exact S.kL 1
  refine SY (fun _ S => ?_) ?_
  ·obtain ⟨⟩ := n16 S.hu
   obtain rfl := S.q 1
   rw [pin S.ha]
   go_simp
   exact S.kL 2
  refine SY (fun _ S => ?_) ?_
  ·obtain ⟨⟩ := n16 S.hu
   obtain rfl := S.q 2
   rw [pin S.ha]
   go_simp
   exact S.kL 3
  refine SY (fun w' S => ?_) ?_
  ·obtain ⟨⟩ := n16 S.hu
   obtain rfl := S.q 3
   have gb := (S.hI.bwd [8, 4] 14 4 (by kernel_rfl) rfl S.h0)
   have hst := S.hI.ph.btw1 0 (.inl rfl) (.inr ⟨14, rfl, gb⟩)
   have hst' : WD = w' := (show w' = WD from hst).symm
   clear hst
   subst hst'
   have c0 := HC0.out
   clear gb
   rw [pin S.ha]
   go_simp
   exact S.kL 4
  refine SY (fun _ S => ?_) ?_
  ·obtain ⟨⟩ := n16 S.hu
   rw [pin S.ha]
   go_simp
   exact S.kL 5
  refine SY (fun _ S => ?_) ?_
  ·obtain ⟨⟩ := n16 S.hu
   rw [pin S.ha]
   go_simp
   exact S.kL 6
  refine SY (fun w' S => ?_) ?_
  ·obtain ⟨⟩ := n16 S.hu
   obtain rfl := S.q 5
   obtain rfl := S.q 6
   have gb := (S.hI.bwd [8, 7] 14 7 (by kernel_rfl) rfl S.h0)
   have hst := S.hI.ph.btw1 0 (.inl rfl) (.inr ⟨14, rfl, gb⟩)
   have hst' : WD = w' := (show w' = WD from hst).symm
   clear hst
   subst hst'
   clear gb
   rw [pin S.ha]
   go_simp
   go_at_call 37
   refine (HPR.out).mono ?_
   rintro e9 w9 ⟨rfl, h9⟩
   subst w9
   go_simp
   exact S.kL 7
  refine SY (fun w' S => ?_) ?_
  ·obtain ⟨⟩ := n16 S.hu
   obtain rfl := S.q 4
   obtain rfl := S.q 7
   have gb := (S.hI.bwd [8] 14 8 (by kernel_rfl) rfl S.h0)
   have hst := S.hI.ph.btw1 0 (.inl rfl) (.inr ⟨14, rfl, gb⟩)
   have hst' : WD = w' := (show w' = WD from hst).symm
   clear hst
   subst hst'
   clear gb
   rw [pin S.ha]
   go_simp
   go_at_call 32
   refine (HOB.out).mono ?_
   rintro e9 w9 ⟨rfl, h9⟩
   subst w9
   go_simp
   exact S.kL 8
  refine SY (fun _ S => ?_) ?_
  ·obtain ⟨⟩ := n16 S.hu
   rw [pin S.ha]
   go_simp
   exact S.kL 9
  refine SY (fun _ S => ?_) ?_
  ·obtain ⟨⟩ := n16 S.hu
   rw [pin S.ha]
   go_simp
   exact S.kL 10
  refine SY (fun _ S => ?_) ?_
  ·obtain ⟨⟩ := n16 S.hu
   rw [pin S.ha]
   go_simp
   exact S.kL 11
  refine SY (fun _ S => ?_) ?_
  ·obtain ⟨⟩ := n16 S.hu
   rw [pin S.ha]
   go_simp
   exact S.kL 12
  refine SY (fun _ S => ?_) ?_
  ·obtain ⟨⟩ := n16 S.hu
   rw [pin S.ha]
   go_simp
   exact S.kL 13
  refine SY (fun w' S => ?_) ?_
  ·obtain ⟨⟩ := n16 S.hu
   obtain rfl := S.q 10
   obtain rfl := S.q 11
   obtain rfl := S.q 12
   obtain rfl := S.q 13
   have gb := S.h0
   have hst := S.hI.ph.btw1 0 (.inl rfl) (.inr ⟨14, rfl, gb⟩)
   have hst' : WD = w' := (show w' = WD from hst).symm
   clear hst
   subst hst'
   clear gb
   rw [pin S.ha]
   go_simp
   go_at_call 104
   refine (HNA.out).mono ?_
   rintro e9 w9 ⟨rfl, hm9⟩
   go_simp
   exact S.kS 14 _ (S.hI.ph.next 0 14 _ rfl S.h0 (.inl rfl) (by decide) (hm9))
  refine SY (fun _ S => ?_) ?_
  ·obtain ⟨⟩ := n16 S.hu
   obtain rfl := S.q 0
   obtain rfl := S.q 8
   obtain rfl := S.q 9
   obtain rfl := S.q 14
   have ga := (gen_after 14 (by kernel_rfl) S.hp)
   have gb := S.h0
   have hst := S.hI.ph.btw1 1 (.inr ⟨14, rfl, ga⟩) (.inr ⟨15, rfl, gb⟩)
   have HST := Veil.mk hst
   clear hst
   have HGA := Veil.mk ga
   clear ga gb
   rw [pin S.ha]
   go_simp
   go_at_call 105
   refine (HOW.out _ HST.out).mono ?_
   rintro e9 w9 ⟨rfl, hm9⟩
   go_simp
   exact S.kS 15 _ (S.hI.ph.next 1 15 _ rfl S.h0 (.inr ⟨14, rfl, HGA.out⟩) (by decide) (hm9))
  exact Steps.nil
 ·intro us wE hus dd hD2 hJ
  obtain ⟨⟩ := n16 hus
  have q1 := hJ.ph.all (fun c hc => hD2 c (by
   have : c = 14 \/ c = 15 := by simpa using hc
   show c < 16
   omega))
  obtain rfl := hJ.vq 0 hD2
  obtain rfl := hJ.vq 1 hD2
  obtain rfl := hJ.vq 2 hD2
  obtain rfl := hJ.vq 3 hD2
  obtain rfl := hJ.vq 4 hD2
  obtain rfl := hJ.vq 5 hD2
  obtain rfl := hJ.vq 6 hD2
  obtain rfl := hJ.vq 7 hD2
  obtain rfl := hJ.vq 8 hD2
  obtain rfl := hJ.vq 9 hD2
  obtain rfl := hJ.vq 10 hD2
  obtain rfl := hJ.vq 11 hD2
  obtain rfl := hJ.vq 12 hD2
  obtain rfl := hJ.vq 13 hD2
  obtain rfl := hJ.vq 14 hD2
  obtain rfl := hJ.vq 15 hD2
  clear hJ hD2
  have HQ := Veil.mk (show P2 wE from q1)
  clear q1
  simp only [puts, setAll, List.setIfInBounds_toArray, List.set_cons_zero, List.set_cons_succ]
  go_wp2
  exact bodyPost_end (results_none rfl _ _ _) rfl ⟨rfl, HQ.out⟩
theorem static_w {w : World} (m h o : Nat) (id n : Int) (nm : ByteArray) (fv v : Vt) (P1 P2 : World -> Prop) (c0 : w.cell? ⟨m, 0, none⟩ = some (.pointer (some ⟨h, 0, none⟩))) (hm : m < w.heap.size)
  (HOF : Veil (∀ W, Below w.heap.size w W -> Calls Tryz.prog 14 #[.pointer (some ⟨h, 0, none⟩), valV fv] W fun e w' => e = .returned (.pointer (some ⟨o, 0, none⟩)) /\ Below W.heap.size W w'))
  (HNA : Veil (∀ W, Below w.heap.size w W -> Calls Tryz.prog 104 #[.pointer (some ⟨m, 0, none⟩), .int .i64 id, .string nm, .int .i64 n, .bool false] W fun e w' => e = .returned (valV v) /\ P1 w'))
  (HOW : Veil (∀ W, P1 W -> Calls Tryz.prog 105 #[.pointer (some ⟨m, 0, none⟩), .pointer (some ⟨o, 0, none⟩), .string nm, valV v, .int .i64 5] W fun e w' => e = .returned (.tuple #[]) /\ P2 w')) :
  Calls Tryz.prog 69 #[.pointer (some ⟨m, 0, none⟩), valV fv, .string nm, .int .i64 id, .int .i64 n] w fun e w' => e = .returned (.tuple #[]) /\ P2 w' := by
 have b1 := Box.new w 28 #[.int .i64 fv.1, .int .i64 fv.2.1, .string fv.2.2]
 have bb : Below w.heap.size w (w.alloc (.cells #[.int .i64 fv.1, .int .i64 fv.2.1, .string fv.2.2] 28)) := (Below.refl _ _).alloc (Nat.le_refl _) _
 obtain ⟨kb, hkb⟩ : ∃ kb, w.heap.size = kb := ⟨_, rfl⟩
 obtain ⟨W0, hW0⟩ : ∃ W0, w.alloc (.cells #[.int .i64 fv.1, .int .i64 fv.2.1, .string fv.2.2] 28) = W0 := ⟨_, rfl⟩
 rw [hW0] at b1 bb
 rw [hkb] at b1
 have HW0 := Veil.mk (And.intro hW0 hkb)
 have HC := Veil.mk ((show W0.cell? ⟨m, 0, none⟩ = w.cell? ⟨m, 0, none⟩ from cell_blk (bb.block m hm) 0).trans c0)
 have HB := Veil.mk (And.intro bb b1)
 clear hW0 hkb b1 bb c0 hm
 go_enter Tryz.func69, Tryz.ntmps69
 go_upto_region 1 with (fail)
 rw [HW0.out.1, HW0.out.2]
 go_upto_region 2 with (fail)
 obtain ⟨WD, hWD⟩ : ∃ WD, W0.drew = WD := ⟨_, rfl⟩
 have hbd : Below w.heap.size w WD := by rw [<- hWD]; exact HB.out.1.drew
 have HOF := Veil.mk (HOF.out WD hbd)
 have HNA : Veil (∀ W, Below WD.heap.size WD W -> Calls Tryz.prog 104 #[.pointer (some ⟨m, 0, none⟩), .int .i64 id, .string nm, .int .i64 n, .bool false] W fun e w' => e = .returned (valV v) /\ P1 w') := ⟨fun W hb => HNA.out W (hbd.trans (hb.mono hbd.size))⟩
 have HC0 : Veil (WD.cell? ⟨m, 0, none⟩ = some (.pointer (some ⟨h, 0, none⟩))) := ⟨by rw [<- hWD]; exact HC.out⟩
 have HX : Veil (Box WD kb 28 #[.int .i64 fv.1, .int .i64 fv.2.1, .string fv.2.2]) := ⟨by rw [<- hWD]; exact HB.out.2.drew⟩
 have HWD := Veil.mk hWD
 clear hWD HC HB HW0 hbd
 refine wp_region_chain [qp m 0, qp m 0, qp m 0, qp m 0, qp h 0, qv fv, qp o 0, qq (.string nm), qp m 0, qi id, qq (.string nm), qi n, qv v, qq (.tuple #[])] (LPh [6, 12, 13] (SqSt WD [Below WD.heap.size WD, P1, P2])) [some 12, some 13, some 14, some 15, some 16, some 17, some 18, some 19, some 20, some 21, some 22, some 23, some 24, some 25] (curV' _ [some 12, some 13, some 14, some 15, some 16, some 17, some 18, some 19, some 20, some 21, some 22, some 23, some 24, some 25]) (by kernel_rfl) rfl rfl (puts_cur _ _) (LPh.start (show W0.drew = WD from HWD.out)) ?_ (by kernel_rfl) ?_
 ·refine SY (fun _ S => ?_) ?_
  ·obtain ⟨⟩ := n14 S.hu
   rw [pin S.ha]
   go_simp
   exact S.kL 0
  refine SY (fun _ S => ?_) ?_
  ·obtain ⟨⟩ := n14 S.hu
   rw [pin S.ha]
   go_simp
   exact S.kL 1
  refine SY (fun _ S => ?_) ?_
  ·obtain ⟨⟩ := n14 S.hu
   obtain rfl := S.q 1
   rw [pin S.ha]
   go_simp
   exact S.kL 2
  refine SY (fun _ S => ?_) ?_
  ·obtain ⟨⟩ := n14 S.hu
   obtain rfl := S.q 2
   rw [pin S.ha]
   go_simp
   exact S.kL 3
  refine SY (fun w' S => ?_) ?_
  ·obtain ⟨⟩ := n14 S.hu
   obtain rfl := S.q 3
   have gb := (S.hI.bwd [4] 6 4 (by kernel_rfl) rfl S.h0)
   have hst := S.hI.ph.btw1 0 (.inl rfl) (.inr ⟨6, rfl, gb⟩)
   have hst' : WD = w' := (show w' = WD from hst).symm
   clear hst
   subst hst'
   have c0 := HC0.out
   clear gb
   rw [pin S.ha]
   go_simp
   exact S.kL 4
  refine SY (fun w' S => ?_) ?_
  ·obtain ⟨⟩ := n14 S.hu
   have gb := (S.hI.bwd [5] 6 5 (by kernel_rfl) rfl S.h0)
   have hst := S.hI.ph.btw1 0 (.inl rfl) (.inr ⟨6, rfl, gb⟩)
   have hst' : WD = w' := (show w' = WD from hst).symm
   clear hst
   subst hst'
   have c0 := HX.out.at_ 0
   have c1 := HX.out.at_ 1
   have c2 := HX.out.at_ 2
   clear gb
   rw [pin S.ha]
   go_simp
   exact S.kL 5
  refine SY (fun w' S => ?_) ?_
  ·obtain ⟨⟩ := n14 S.hu
   obtain rfl := S.q 4
   obtain rfl := S.q 5
   have gb := S.h0
   have hst := S.hI.ph.btw1 0 (.inl rfl) (.inr ⟨6, rfl, gb⟩)
   have hst' : WD = w' := (show w' = WD from hst).symm
   clear hst
   subst hst'
   clear gb
   rw [pin S.ha]
   go_simp
   go_at_call 14
   refine (HOF.out).mono ?_
   rintro e9 w9 ⟨rfl, hm9⟩
   go_simp
   exact S.kS 6 _ (S.hI.ph.next 0 6 _ rfl S.h0 (.inl rfl) (by decide) (hm9))
  refine SY (fun _ S => ?_) ?_
  ·obtain ⟨⟩ := n14 S.hu
   rw [pin S.ha]
   go_simp
   exact S.kL 7
  refine SY (fun _ S => ?_) ?_
  ·obtain ⟨⟩ := n14 S.hu
   rw [pin S.ha]
   go_simp
   exact S.kL 8
  refine SY (fun _ S => ?_) ?_
  ·obtain ⟨⟩ := n14 S.hu
   rw [pin S.ha]
   go_simp
   exact S.kL 9
  refine SY (fun _ S => ?_) ?_
  ·obtain ⟨⟩ := n14 S.hu
   rw [pin S.ha]
   go_simp
   exact S.kL 10
  refine SY (fun _ S => ?_) ?_
  ·obtain ⟨⟩ := n14 S.hu
   rw [pin S.ha]
   go_simp
   exact S.kL 11
  refine SY (fun _ S => ?_) ?_
  ·obtain ⟨⟩ := n14 S.hu
   obtain rfl := S.q 8
   obtain rfl := S.q 9
   obtain rfl := S.q 10
   obtain rfl := S.q 11
   have ga := (gen_after 6 (by kernel_rfl) S.hp)
   have gb := S.h0
   have hst := S.hI.ph.btw1 1 (.inr ⟨6, rfl, ga⟩) (.inr ⟨12, rfl, gb⟩)
   have HST := Veil.mk hst
   clear hst
   have HGA := Veil.mk ga
   clear ga gb
   rw [pin S.ha]
   go_simp
   go_at_call 104
   refine (HNA.out _ HST.out).mono ?_
   rintro e9 w9 ⟨rfl, hm9⟩
   go_simp
   exact S.kS 12 _ (S.hI.ph.next 1 12 _ rfl S.h0 (.inr ⟨6, rfl, HGA.out⟩) (by decide) (hm9))
  refine SY (fun _ S => ?_) ?_
  ·obtain ⟨⟩ := n14 S.hu
   obtain rfl := S.q 0
   obtain rfl := S.q 6
   obtain rfl := S.q 7
   obtain rfl := S.q 12
   have ga := (gen_after 12 (by kernel_rfl) S.hp)
   have gb := S.h0
   have hst := S.hI.ph.btw1 2 (.inr ⟨12, rfl, ga⟩) (.inr ⟨13, rfl, gb⟩)
   have HST := Veil.mk hst
   clear hst
   have HGA := Veil.mk ga
   clear ga gb
   rw [pin S.ha]
   go_simp
   go_at_call 105
   refine (HOW.out _ HST.out).mono ?_
   rintro e9 w9 ⟨rfl, hm9⟩
   go_simp
   exact S.kS 13 _ (S.hI.ph.next 2 13 _ rfl S.h0 (.inr ⟨12, rfl, HGA.out⟩) (by decide) (hm9))
  exact Steps.nil
 ·intro us wE hus dd hD2 hJ
  obtain ⟨⟩ := n14 hus
  have q1 := hJ.ph.all (fun c hc => hD2 c (by
   have : c = 6 \/ c = 12 \/ c = 13 := by simpa using hc
   show c < 14
   omega))
  obtain rfl := hJ.vq 0 hD2
  obtain rfl := hJ.vq 1 hD2
  obtain rfl := hJ.vq 2 hD2
  obtain rfl := hJ.vq 3 hD2
  obtain rfl := hJ.vq 4 hD2
  obtain rfl := hJ.vq 5 hD2
  obtain rfl := hJ.vq 6 hD2
  obtain rfl := hJ.vq 7 hD2
  obtain rfl := hJ.vq 8 hD2
  obtain rfl := hJ.vq 9 hD2
  obtain rfl := hJ.vq 10 hD2
  obtain rfl := hJ.vq 11 hD2
  obtain rfl := hJ.vq 12 hD2
  obtain rfl := hJ.vq 13 hD2
  clear hJ hD2
  have HQ := Veil.mk (show P2 wE from q1)
  clear q1
  simp only [puts, setAll, List.setIfInBounds_toArray, List.set_cons_zero, List.set_cons_succ]
  go_wp2
  exact bodyPost_end (results_none rfl _ _ _) rfl ⟨rfl, HQ.out⟩
theorem own_blk {w w' : World} {B n size : Nat} {v : Value} {xs : List Value} {e : TypeId} (h : w.ownsRow B e size v n xs) (hk : ∀ k, v.ownBlock = some k -> w'.heap[k]? = w.heap[k]?) : w'.ownsRow B e size v n xs := by
 refine ⟨h.1, h.2.imp (fun h => h) ?_⟩
 rintro ⟨g, cap, cur, e1, e2, e3, r⟩
 exact ⟨g, cap, cur, e1, e2, (hk g (by rw [e1]; rfl)).trans e3, r⟩
theorem own_cut {w w' : World} {B n size r cap : Nat} {xs : List Value} {e : TypeId} (h : w.ownsRow B e size (.slice (some ⟨r, 0, none⟩) n cap) n xs) (hb : ∃ cs, w'.heap[r]? = some (.cells cs e (0, 0)) /\ cs.size = cap * size) : w'.ownsRow B e size (.slice (some ⟨r, 0, none⟩) 0 cap) 0 [] := by
 refine ⟨by simp, .inr ?_⟩
 rcases h.2 with ⟨h1, -⟩ | ⟨g, cap2, cur, e1, e2, -, e4, e5, -⟩
 ·cases h1
 ·injection e1 with e1 e6 e7
  injection e1 with e1
  injection e1 with e1
  subst e1 e7
  obtain ⟨cs, hb, hs⟩ := hb
  exact ⟨r, cap, cs, rfl, e2, hb, Nat.zero_le _, e5, hs, by simp⟩
theorem own_box {w : World} {B n size r cap : Nat} {xs : List Value} {e : TypeId} (h : w.ownsRow B e size (.slice (some ⟨r, 0, none⟩) n cap) n xs) : ∃ cur, Box w r e cur /\ cur.size = cap * size /\ n <= cap := by
 rcases h.2 with ⟨h1, -⟩ | ⟨g, cap2, cur, e1, e2, e3, e4, e5, e6, -⟩
 ·cases h1
 ·injection e1 with e1 e7 e8
  injection e1 with e1
  injection e1 with e1
  subst e1 e8
  exact ⟨cur, e3, e6, e4⟩
section
variable {W W' : World} {h A m : Nat} {f : MF} {os : List OS} {ts ts1 ts2 : List TO}
theorem Rest.keep (hr : Rest W A f) (hk : ∀ k, VCf f k -> W'.heap[k]? = W.heap[k]?) : Rest W' A f := ⟨own_blk hr.na (fun k h9 => hk k (.inl h9)), own_blk hr.ca (fun k h9 => hk k (.inr h9))⟩
theorem Rest.lab (hr : Rest W A f) {k : Nat} (hk : VCf f k) : ∃ e, e ∈ kvL /\ Lab W k e := hk.elim (fun h9 => ⟨CTy, by decide, own_lab hr.na k h9⟩) (fun h9 => ⟨VTy, by decide, own_lab hr.ca k h9⟩)
theorem Rest.bv {V : Nat -> Prop} (hr : Rest W A f) (hb : Bv A V W W') (hv : ∀ k, VCf f k -> ¬ V k) : Rest W' A f := hr.keep (fun k hk => by
 obtain ⟨e, he, hl⟩ := hr.lab hk
 exact hb.kv k e he hl (hv k hk))
theorem Rest.bk (hr : Rest W A f) (hb : Bk A W W') : Rest W' A f := hr.bv (hb.bv (fun _ => False)) (fun _ _ h => h)
theorem MP.popD (H : MP W h A m f ts) {mb r8 k8 r15 k15 : Nat} {cc cv : List Value} (hna : f.na = (.slice (some ⟨r8, 0, none⟩) (0 + 1) k8)) (hca : f.ca = (.slice (some ⟨r15, 0, none⟩) (0 + 1) k15)) (h8 : W.ownsRow A CTy 8 (.slice (some ⟨r8, 0, none⟩) (0 + 1) k8) (0 + 1) ([] ++ cc)) (h15 : W.ownsRow A VTy 3 (.slice (some ⟨r15, 0, none⟩) (0 + 1) k15) (0 + 1) ([] ++ cv)) (hmb : Box W mb 25 #[.pointer (some ⟨m, 0, none⟩)]) (u : FrameMode) :
  CallsD Tryz.prog 93 #[.pointer (some ⟨mb, 0, none⟩)] u W fun e u' w' => u' = u /\ (e = .returned (.tuple #[]) /\ MP w' h A m { f with na := .slice (some ⟨r8, 0, none⟩) 0 k8, ca := .slice (some ⟨r15, 0, none⟩) 0 k15 } ts /\ Rest w' A { f with na := .slice (some ⟨r8, 0, none⟩) 0 k8, ca := .slice (some ⟨r15, 0, none⟩) 0 k15 } /\ Bv A (VCf f) W w') := by
 have c44 : W.cell? ⟨m, 44, none⟩ = some (.slice (some ⟨r8, 0, none⟩) 1 k8) := by have := H.mm.mb.at_ 44; rw [show (machV (.pointer (some ⟨h, 0, none⟩)) f hostV)[44]? = some f.na from rfl, hna] at this; exact this
 have cm0 : W.cell? ⟨mb, 0, none⟩ = some (.pointer (some ⟨m, 0, none⟩)) := hmb.at_ 0
 obtain ⟨cur, hcu, hcs, hn1⟩ := own_box h8
 have hc8 : 8 <= cur.size := by omega
 have e0 : ∃ u, W.cell? ⟨r8, 0, none⟩ = some u := ⟨cur[0], by rw [hcu.at_ 0]; exact Array.getElem?_eq_getElem (by omega)⟩
 obtain ⟨u0, e0⟩ := e0
 have g0 := hcu.free 0
 have e1 : ∃ u, W.cell? ⟨r8, 1, none⟩ = some u := ⟨cur[1], by rw [hcu.at_ 1]; exact Array.getElem?_eq_getElem (by omega)⟩
 obtain ⟨u1, e1⟩ := e1
 have g1 := hcu.free 1
 have e2 : ∃ u, W.cell? ⟨r8, 2, none⟩ = some u := ⟨cur[2], by rw [hcu.at_ 2]; exact Array.getElem?_eq_getElem (by omega)⟩
 obtain ⟨u2, e2⟩ := e2
 have g2 := hcu.free 2
 have e3 : ∃ u, W.cell? ⟨r8, 3, none⟩ = some u := ⟨cur[3], by rw [hcu.at_ 3]; exact Array.getElem?_eq_getElem (by omega)⟩
 obtain ⟨u3, e3⟩ := e3
 have g3 := hcu.free 3
 have e4 : ∃ u, W.cell? ⟨r8, 4, none⟩ = some u := ⟨cur[4], by rw [hcu.at_ 4]; exact Array.getElem?_eq_getElem (by omega)⟩
 obtain ⟨u4, e4⟩ := e4
 have g4 := hcu.free 4
 have e5 : ∃ u, W.cell? ⟨r8, 5, none⟩ = some u := ⟨cur[5], by rw [hcu.at_ 5]; exact Array.getElem?_eq_getElem (by omega)⟩
 obtain ⟨u5, e5⟩ := e5
 have g5 := hcu.free 5
 have e6 : ∃ u, W.cell? ⟨r8, 6, none⟩ = some u := ⟨cur[6], by rw [hcu.at_ 6]; exact Array.getElem?_eq_getElem (by omega)⟩
 obtain ⟨u6, e6⟩ := e6
 have g6 := hcu.free 6
 have e7 : ∃ u, W.cell? ⟨r8, 7, none⟩ = some u := ⟨cur[7], by rw [hcu.at_ 7]; exact Array.getElem?_eq_getElem (by omega)⟩
 obtain ⟨u7, e7⟩ := e7
 have g7 := hcu.free 7
 have HH := Veil.mk (And.intro H (And.intro hna (And.intro hca (And.intro h8 (And.intro h15 (And.intro hmb (And.intro hcu hcs)))))))
 clear H hna hca h8 h15 hmb hcu hcs hn1 hc8
 go_enter_d Tryz.func93, Tryz.ntmps93
 go_upto_region 2 with (fail)
 obtain ⟨w8, hw8⟩ : ∃ w8, ((((((((W.setCell ⟨r8, 0, none⟩ (.pointer none)).setCell ⟨r8, 1, none⟩ (.int .i64 0)).setCell ⟨r8, 2, none⟩ (.int .i64 0)).setCell ⟨r8, 3, none⟩ (.string ⟨#[]⟩)).setCell ⟨r8, 4, none⟩ (.slice none 0 0)).setCell ⟨r8, 5, none⟩ (.int .i64 0)).setCell ⟨r8, 6, none⟩ (.int .i64 0)).setCell ⟨r8, 7, none⟩ (.string ⟨#[]⟩)) = w8 := ⟨_, rfl⟩
 have ht8 : Touch (fun k => k = r8) W w8 := by rw [<- hw8]; exact ((((((((Touch.put (S := fun k => k = r8) rfl _ _).trans (Touch.put (S := fun k => k = r8) rfl _ _)).trans (Touch.put (S := fun k => k = r8) rfl _ _)).trans (Touch.put (S := fun k => k = r8) rfl _ _)).trans (Touch.put (S := fun k => k = r8) rfl _ _)).trans (Touch.put (S := fun k => k = r8) rfl _ _)).trans (Touch.put (S := fun k => k = r8) rfl _ _)).trans (Touch.put (S := fun k => k = r8) rfl _ _))
 have hbx8 : ∃ cs, Box w8 r8 CTy cs /\ cs.size = k8 * 8 := ⟨_, by rw [<- hw8]; exact ((((((((HH.out.2.2.2.2.2.2.1.put 0 (.pointer none)).put 1 (.int .i64 0)).put 2 (.int .i64 0)).put 3 (.string ⟨#[]⟩)).put 4 (.slice none 0 0)).put 5 (.int .i64 0)).put 6 (.int .i64 0)).put 7 (.string ⟨#[]⟩)), by simp [HH.out.2.2.2.2.2.2.2]⟩
 rw [hw8]
 have hl8 : Lab W r8 CTy := HH.out.2.2.2.2.2.2.1.lab
 have hm8 := HH.out.1.touchV ht8 (fun k hk => ⟨CTy, by decide, by rw [hk]; exact hl8⟩)
 have hvr : VCf f r8 := .inl (by rw [HH.out.2.1]; rfl)
 have hAr : A <= r8 := (HH.out.2.2.2.1.lt r8 rfl).1
 have hbv8 : Bv A (VCf f) W w8 := (Bv.touch ht8 (Nat.le_of_lt HH.out.1.mm.alt) (fun k hk => by rw [hk]; exact hAr)).mono (fun k hk => by rw [hk]; exact hvr)
 have hca8 : w8.ownsRow A VTy 3 (.slice (some ⟨r15, 0, none⟩) (0 + 1) k15) (0 + 1) ([] ++ cv) := own_blk HH.out.2.2.2.2.1 (fun k hk => ht8.block k (lab_lt (own_lab HH.out.2.2.2.2.1 k hk)) (fun e => (own_lab HH.out.2.2.2.2.1 k hk).ne hl8 (by decide) e))
 have hmb8 : Box w8 mb 25 #[.pointer (some ⟨m, 0, none⟩)] := hbv8.box HH.out.2.2.2.2.2.1 (by decide) (fun hk => by
  obtain ⟨e, he, hl⟩ := (show ∃ e, e ∈ kvL /\ Lab W mb e /\ e ≠ 25 from hk.elim (fun h9 => ⟨CTy, by decide, own_lab HH.out.2.2.2.1 mb (by rw [<- HH.out.2.1]; exact h9), by decide⟩) (fun h9 => ⟨VTy, by decide, own_lab HH.out.2.2.2.2.1 mb (by rw [<- HH.out.2.2.1]; exact h9), by decide⟩))
  exact hl.1.ne HH.out.2.2.2.2.2.1.lab hl.2 rfl)
 obtain ⟨WD, hWD⟩ : ∃ WD, w8.drew = WD := ⟨_, rfl⟩
 have hdr : Below w8.heap.size w8 WD := by rw [<- hWD]; exact (Below.refl _ _).drew
 have H8 := Veil.mk (And.intro (hm8.on hdr) (And.intro (hbv8.trans ((Bk.of_below (Nat.le_of_lt hm8.mm.alt) hdr).bv (fun _ => False)) (fun k hk => hk.elim)) (And.intro (own_blk hca8 (fun k hk => hdr.block k (hca8.lt k hk).2)) (And.intro (show ∃ cs, Box WD r8 CTy cs /\ cs.size = k8 * 8 from by obtain ⟨cs, h1, h2⟩ := hbx8; exact ⟨cs, h1.below hdr, h2⟩) (hmb8.below hdr)))))
 have HC : Veil (WD.cell? ⟨mb, 0, none⟩ = some (.pointer (some ⟨m, 0, none⟩)) /\ WD.cell? ⟨m, 44, none⟩ = some (.slice (some ⟨r8, 0, none⟩) 1 k8) /\ WD.cell? ⟨m, 45, none⟩ = some (.slice (some ⟨r15, 0, none⟩) 1 k15) /\ WD.frozen? ⟨m, 44, none⟩ = false /\ WD.frozen? ⟨m, 45, none⟩ = false) := by
  have h4 := H8.out.1.mm.mb.at_ 44
  have h5 := H8.out.1.mm.mb.at_ 45
  rw [show (machV (.pointer (some ⟨h, 0, none⟩)) f hostV)[44]? = some f.na from rfl, HH.out.2.1] at h4
  rw [show (machV (.pointer (some ⟨h, 0, none⟩)) f hostV)[45]? = some f.ca from rfl, HH.out.2.2.1] at h5
  exact ⟨H8.out.2.2.2.2.at_ 0, h4, h5, H8.out.1.mm.mb.free 44, H8.out.1.mm.mb.free 45⟩
 have HHH := Veil.mk (And.intro HH.out.2.1 (And.intro HH.out.2.2.1 HH.out.2.2.2.1))
 have HKC : Veil (0 <= k8 /\ 1 <= k8 /\ 1 <= k15) := ⟨by omega, (own_box HHH.out.2.2).choose_spec.2.2, (own_box H8.out.2.2.1).choose_spec.2.2⟩
 obtain ⟨-, hk8, hk15⟩ := HKC.out
 have HWD := Veil.mk hWD
 clear hWD hdr hw8 ht8 hbx8 hl8 hm8 hvr hAr hbv8 hca8 hmb8 HH c44 cm0 e0 e1 e2 e3 e4 e5 e6 e7 g0 g1 g2 g3 g4 g5 g6 g7
 refine wp_region_chain [qp m 0, qp m 0, qp m 0, qp m 0, qp m 44, qq (.slice (some ⟨r8, 0, none⟩) 1 k8), qi 0, qq (.slice (some ⟨r8, 0, none⟩) 0 k8), qp m 0, qp m 0, qp m 45, qq (.slice (some ⟨r15, 0, none⟩) 1 k15), qi 0, qq (.slice (some ⟨r15, 0, none⟩) 0 k15), qp m 0, qp m 44, none, qp m 0, qp m 45, none] (LPh [16, 19] (SqSt WD [fun w => w = WD.setCell ⟨m, 44, none⟩ (.slice (some ⟨r8, 0, none⟩) 0 k8), fun w => w = (WD.setCell ⟨m, 44, none⟩ (.slice (some ⟨r8, 0, none⟩) 0 k8)).setCell ⟨m, 45, none⟩ (.slice (some ⟨r15, 0, none⟩) 0 k15)])) [some 15, some 16, some 17, some 18, some 19, some 20, some 21, some 22, some 23, some 24, some 25, some 26, some 27, some 28, some 29, some 30, none, some 31, some 32, none] (curV' _ [some 15, some 16, some 17, some 18, some 19, some 20, some 21, some 22, some 23, some 24, some 25, some 26, some 27, some 28, some 29, some 30, none, some 31, some 32, none]) (by kernel_rfl) rfl rfl (puts_cur _ _) (LPh.start (show _ = WD from HWD.out)) ?_ (by kernel_rfl) ?_
 ·refine SY (fun w' S => ?_) ?_
  ·obtain ⟨⟩ := n20 S.hu
   have gb := (S.hI.bwd [0] 16 0 (by kernel_rfl) rfl S.h0)
   have hst := S.hI.ph.btw1 0 (.inl rfl) (.inr ⟨16, rfl, gb⟩)
   have hst' : WD = w' := (show w' = WD from hst).symm
   clear hst
   subst hst'
   have c0 := HC.out.1
   clear gb
   rw [pin S.ha]
   go_simp
   exact S.kL 0
  refine SY (fun w' S => ?_) ?_
  ·obtain ⟨⟩ := n20 S.hu
   have gb := (S.hI.bwd [1] 16 1 (by kernel_rfl) rfl S.h0)
   have hst := S.hI.ph.btw1 0 (.inl rfl) (.inr ⟨16, rfl, gb⟩)
   have hst' : WD = w' := (show w' = WD from hst).symm
   clear hst
   subst hst'
   have c0 := HC.out.1
   clear gb
   rw [pin S.ha]
   go_simp
   exact S.kL 1
  refine SY (fun w' S => ?_) ?_
  ·obtain ⟨⟩ := n20 S.hu
   have gb := (S.hI.bwd [2] 16 2 (by kernel_rfl) rfl S.h0)
   have hst := S.hI.ph.btw1 0 (.inl rfl) (.inr ⟨16, rfl, gb⟩)
   have hst' : WD = w' := (show w' = WD from hst).symm
   clear hst
   subst hst'
   have c0 := HC.out.1
   clear gb
   rw [pin S.ha]
   go_simp
   exact S.kL 2
  refine SY (fun _ S => ?_) ?_
  ·obtain ⟨⟩ := n20 S.hu
   obtain rfl := S.q 2
   rw [pin S.ha]
   go_simp
   exact S.kL 3
  refine SY (fun _ S => ?_) ?_
  ·obtain ⟨⟩ := n20 S.hu
   obtain rfl := S.q 3
   rw [pin S.ha]
   go_simp
   exact S.kL 4
  refine SY (fun w' S => ?_) ?_
  ·obtain ⟨⟩ := n20 S.hu
   obtain rfl := S.q 4
   have gb := (S.hI.bwd [5] 16 5 (by kernel_rfl) rfl S.h0)
   have hst := S.hI.ph.btw1 0 (.inl rfl) (.inr ⟨16, rfl, gb⟩)
   have hst' : WD = w' := (show w' = WD from hst).symm
   clear hst
   subst hst'
   have c0 := HC.out.2.1
   clear gb
   rw [pin S.ha]
   go_simp
   exact S.kL 5
  refine SY (fun _ S => ?_) ?_
  ·obtain ⟨⟩ := n20 S.hu
   rw [pin S.ha]
   go_simp
   exact S.kL 6
  refine SY (fun _ S => ?_) ?_
  ·obtain ⟨⟩ := n20 S.hu
   obtain rfl := S.q 5
   obtain rfl := S.q 6
   rw [pin S.ha]
   go_simp
   exact S.kL 7
  refine SY (fun w' S => ?_) ?_
  ·obtain ⟨⟩ := n20 S.hu
   have gb := (S.hI.bwd [8] 16 8 (by kernel_rfl) rfl S.h0)
   have hst := S.hI.ph.btw1 0 (.inl rfl) (.inr ⟨16, rfl, gb⟩)
   have hst' : WD = w' := (show w' = WD from hst).symm
   clear hst
   subst hst'
   have c0 := HC.out.1
   clear gb
   rw [pin S.ha]
   go_simp
   exact S.kL 8
  refine SY (fun _ S => ?_) ?_
  ·obtain ⟨⟩ := n20 S.hu
   obtain rfl := S.q 8
   rw [pin S.ha]
   go_simp
   exact S.kL 9
  refine SY (fun _ S => ?_) ?_
  ·obtain ⟨⟩ := n20 S.hu
   obtain rfl := S.q 9
   rw [pin S.ha]
   go_simp
   exact S.kL 10
  refine SY (fun w' S => ?_) ?_
  ·obtain ⟨⟩ := n20 S.hu
   obtain rfl := S.q 10
   have gb := (S.hI.bwd [11] 16 11 (by kernel_rfl) rfl S.h0)
   have hst := S.hI.ph.btw1 0 (.inl rfl) (.inr ⟨16, rfl, gb⟩)
   have hst' : WD = w' := (show w' = WD from hst).symm
   clear hst
   subst hst'
   have c0 := HC.out.2.2.1
   clear gb
   rw [pin S.ha]
   go_simp
   exact S.kL 11
  refine SY (fun _ S => ?_) ?_
  ·obtain ⟨⟩ := n20 S.hu
   rw [pin S.ha]
   go_simp
   exact S.kL 12
  refine SY (fun _ S => ?_) ?_
  ·obtain ⟨⟩ := n20 S.hu
   obtain rfl := S.q 11
   obtain rfl := S.q 12
   rw [pin S.ha]
   go_simp
   exact S.kL 13
  refine SY (fun _ S => ?_) ?_
  ·obtain ⟨⟩ := n20 S.hu
   obtain rfl := S.q 0
   rw [pin S.ha]
   go_simp
   exact S.kL 14
  refine SY (fun _ S => ?_) ?_
  ·obtain ⟨⟩ := n20 S.hu
   obtain rfl := S.q 14
   rw [pin S.ha]
   go_simp
   exact S.kL 15
  refine SY (fun w' S => ?_) ?_
  ·obtain ⟨⟩ := n20 S.hu
   obtain rfl := S.q 15
   obtain rfl := S.q 7
   have gb := S.h0
   have hst := S.hI.ph.btw1 0 (.inl rfl) (.inr ⟨16, rfl, gb⟩)
   have hst' : WD = w' := (show w' = WD from hst).symm
   clear hst
   subst hst'
   have c0 := HC.out.2.1
   have f0 := HC.out.2.2.2.1
   clear gb
   rw [pin S.ha]
   go_simp
   exact S.kN 16 undef (S.hI.ph.next 0 16 _ rfl S.h0 (.inl rfl) (by decide) (rfl))
  refine SY (fun _ S => ?_) ?_
  ·obtain ⟨⟩ := n20 S.hu
   obtain rfl := S.q 1
   rw [pin S.ha]
   go_simp
   exact S.kL 17
  refine SY (fun _ S => ?_) ?_
  ·obtain ⟨⟩ := n20 S.hu
   obtain rfl := S.q 17
   rw [pin S.ha]
   go_simp
   exact S.kL 18
  refine SY (fun w' S => ?_) ?_
  ·obtain ⟨⟩ := n20 S.hu
   obtain rfl := S.q 18
   obtain rfl := S.q 13
   have ga := (gen_after 16 (by kernel_rfl) S.hp)
   have gb := S.h0
   have hst := S.hI.ph.btw1 1 (.inr ⟨16, rfl, ga⟩) (.inr ⟨19, rfl, gb⟩)
   have HST := Veil.mk (show w' = WD.setCell ⟨m, 44, none⟩ (.slice (some ⟨r8, 0, none⟩) 0 k8) from hst)
   clear hst
   have c0 : w'.cell? ⟨m, 45, none⟩ = some (.slice (some ⟨r15, 0, none⟩) 1 k15) := by rw [HST.out, World.cell?_setCell_other _ ⟨m, 44, none⟩ ⟨m, 45, none⟩ _ (by simp)]; exact HC.out.2.2.1
   have f0 : w'.frozen? ⟨m, 45, none⟩ = false := by rw [HST.out]; simp [HC.out.2.2.2.2]
   have HGA := Veil.mk ga
   clear ga gb
   rw [pin S.ha]
   go_simp
   exact S.kN 19 undef (S.hI.ph.next 1 19 _ rfl S.h0 (.inr ⟨16, rfl, HGA.out⟩) (by decide) (by show _ = _; rw [HST.out]))
  exact Steps.nil
 ·intro us wE hus dd hD2 hJ
  obtain ⟨⟩ := n20 hus
  have q1 := hJ.ph.all (fun c hc => hD2 c (by
   have : c = 16 \/ c = 19 := by simpa using hc
   show c < 20
   omega))
  obtain rfl := hJ.vq 0 hD2
  obtain rfl := hJ.vq 1 hD2
  obtain rfl := hJ.vq 2 hD2
  obtain rfl := hJ.vq 3 hD2
  obtain rfl := hJ.vq 4 hD2
  obtain rfl := hJ.vq 5 hD2
  obtain rfl := hJ.vq 6 hD2
  obtain rfl := hJ.vq 7 hD2
  obtain rfl := hJ.vq 8 hD2
  obtain rfl := hJ.vq 9 hD2
  obtain rfl := hJ.vq 10 hD2
  obtain rfl := hJ.vq 11 hD2
  obtain rfl := hJ.vq 12 hD2
  obtain rfl := hJ.vq 13 hD2
  obtain rfl := hJ.vq 14 hD2
  obtain rfl := hJ.vq 15 hD2
  obtain rfl := hJ.vq 17 hD2
  obtain rfl := hJ.vq 18 hD2
  clear hJ hD2
  have HQ := Veil.mk (show wE = (WD.setCell ⟨m, 44, none⟩ (.slice (some ⟨r8, 0, none⟩) 0 k8)).setCell ⟨m, 45, none⟩ (.slice (some ⟨r15, 0, none⟩) 0 k15) from q1)
  clear q1
  simp only [puts, setAll, List.setIfInBounds_toArray, List.set_cons_zero, List.set_cons_succ]
  clear HC
  have h1 := H8.out.1.setM 44 (.slice (some ⟨r8, 0, none⟩) 0 k8) { f with na := .slice (some ⟨r8, 0, none⟩) 0 k8 } rfl
  have h2 := h1.1.setM 45 (.slice (some ⟨r15, 0, none⟩) 0 k15) { f with na := .slice (some ⟨r8, 0, none⟩) 0 k8, ca := .slice (some ⟨r15, 0, none⟩) 0 k15 } rfl
  rw [<- HQ.out] at h2
  have hbk := h1.2.trans h2.2
  have hq8 : wE.ownsRow A CTy 8 (.slice (some ⟨r8, 0, none⟩) 0 k8) 0 [] := by
   refine own_cut HHH.out.2.2 ?_
   obtain ⟨cs, h3, h4⟩ := H8.out.2.2.2.1
   exact ⟨cs, hbk.boxE h3 (by decide), h4⟩
  have hq15 : wE.ownsRow A VTy 3 (.slice (some ⟨r15, 0, none⟩) 0 k15) 0 [] := by
   refine own_cut H8.out.2.2.1 ?_
   obtain ⟨cs, h3, h4, -⟩ := own_box H8.out.2.2.1
   exact ⟨cs, hbk.boxE h3 (by decide), h4⟩
  have HF := Veil.mk (And.intro h2.1 (And.intro (Rest.mk (f := { f with na := .slice (some ⟨r8, 0, none⟩) 0 k8, ca := .slice (some ⟨r15, 0, none⟩) 0 k15 }) hq8 hq15) (H8.out.2.1.trans (hbk.bv (fun _ => False)) (fun k hk => hk.elim))))
  clear h1 h2 hbk hq8 hq15 HQ H8 HHH HKC HWD hk8 hk15
  go_wp2
  exact bodyPost_end (results_none rfl _ _ _) rfl ⟨rfl, HF.out⟩
end
theorem native_method (w : World) : (method 530 90 (.agg #[]) "Native").run Tryz.prog w = .ok (347, .agg #[]) w := by kernel_rfl
theorem host_native {W : World} {h A m : Nat} {f1 : MF} {V : Nat -> Prop} {R : (Nat -> Prop) -> List TO -> Int -> World -> Prop} (hR : RStay A R) (hA : A <= W.heap.size) (hV : ∀ k, V k -> k < W.heap.size) (nid : Int) (fo : Nat) (this tgt x : Vt) (en : Int) (args : Value)
  (HDO : Veil (∀ W', Below W.heap.size W W' -> Calls Tryz.prog 348 #[.pointer (some ⟨m, 0, none⟩), .int .i64 nid, callV fo this args tgt] W' fun e w' => e = .returned (.tuple #[valV x, .int .i64 en]) /\ DoP W' h A m f1 V R (fun _ => False) w')) :
  Calls Tryz.prog 347 #[.agg #[], .pointer (some ⟨m, 0, none⟩), .int .i64 nid, callV fo this args tgt] W fun e w' => e = .returned (.tuple #[valV x, .int .i64 en]) /\ DoP W h A m f1 V R (fun _ => False) w' := by
 obtain ⟨hb, hhb⟩ : ∃ hb, W.heap.size = hb := ⟨_, rfl⟩
 obtain ⟨cb, hcb⟩ : ∃ cb, hb + 1 = cb := ⟨_, rfl⟩
 obtain ⟨rb, hrb⟩ : ∃ rb, cb + 1 = rb := ⟨_, rfl⟩
 obtain ⟨W0, hW0⟩ : ∃ W0, (((W.alloc (.cells #[] 90)).alloc (.cells #[.pointer (some ⟨fo, 0, none⟩), .int .i64 this.1, .int .i64 this.2.1, .string this.2.2, args, .int .i64 tgt.1, .int .i64 tgt.2.1, .string tgt.2.2] CTy)).alloc (.cells #[.int .i64 0, .int .i64 0, .string ⟨#[]⟩] VTy)) = W0 := ⟨_, rfl⟩
 have bb : Below W.heap.size W W0 := by rw [<- hW0]; exact ((((Below.refl _ _).alloc (Nat.le_refl _) _).alloc (by simp only [World.size_alloc]; omega) _).alloc (by simp only [World.size_alloc]; omega) _)
 have xhb : Box W0 hb 90 #[] := by have h9 := ((((Box.new W 90 #[]).more (.cells #[.pointer (some ⟨fo, 0, none⟩), .int .i64 this.1, .int .i64 this.2.1, .string this.2.2, args, .int .i64 tgt.1, .int .i64 tgt.2.1, .string tgt.2.2] CTy))).more (.cells #[.int .i64 0, .int .i64 0, .string ⟨#[]⟩] VTy)); rw [hW0, hhb] at h9; exact h9
 have xcb : Box W0 cb CTy #[.pointer (some ⟨fo, 0, none⟩), .int .i64 this.1, .int .i64 this.2.1, .string this.2.2, args, .int .i64 tgt.1, .int .i64 tgt.2.1, .string tgt.2.2] := by have h9 := ((Box.new (W.alloc (.cells #[] 90)) CTy #[.pointer (some ⟨fo, 0, none⟩), .int .i64 this.1, .int .i64 this.2.1, .string this.2.2, args, .int .i64 tgt.1, .int .i64 tgt.2.1, .string tgt.2.2]).more (.cells #[.int .i64 0, .int .i64 0, .string ⟨#[]⟩] VTy)); rw [hW0, show (W.alloc (.cells #[] 90)).heap.size = cb from by simp only [World.size_alloc]; omega] at h9; exact h9
 have xrb : Box W0 rb VTy #[.int .i64 0, .int .i64 0, .string ⟨#[]⟩] := by have h9 := Box.new ((W.alloc (.cells #[] 90)).alloc (.cells #[.pointer (some ⟨fo, 0, none⟩), .int .i64 this.1, .int .i64 this.2.1, .string this.2.2, args, .int .i64 tgt.1, .int .i64 tgt.2.1, .string tgt.2.2] CTy)) VTy #[.int .i64 0, .int .i64 0, .string ⟨#[]⟩]; rw [hW0, show ((W.alloc (.cells #[] 90)).alloc (.cells #[.pointer (some ⟨fo, 0, none⟩), .int .i64 this.1, .int .i64 this.2.1, .string this.2.2, args, .int .i64 tgt.1, .int .i64 tgt.2.1, .string tgt.2.2] CTy)).heap.size = rb from by simp only [World.size_alloc]; omega] at h9; exact h9
 have HW0 := Veil.mk (And.intro hW0 (And.intro hhb (And.intro hcb (hrb))))
 have HBB := Veil.mk (And.intro bb (And.intro xhb (And.intro xcb (xrb))))
 have HLO : Veil (W.heap.size <= hb /\ W.heap.size <= cb /\ W.heap.size <= rb) := ⟨by omega⟩
 clear hW0 bb hhb xhb hcb xcb hrb xrb
 have HDO0 := Veil.mk (HDO.out W0 HBB.out.1)
 have HRR := Veil.mk (And.intro hR (And.intro hA hV))
 clear HDO hR hA hV
 go_enter Tryz.func347, Tryz.ntmps347
 go_upto_region 1 with (fail)
 rw [HW0.out.1, HW0.out.2.1, HW0.out.2.2.1, HW0.out.2.2.2]
 have c0 : W0.cell? ⟨cb, 0, none⟩ = some (.pointer (some ⟨fo, 0, none⟩)) := HBB.out.2.2.1.at_ 0
 have c1 : W0.cell? ⟨cb, 1, none⟩ = some (.int .i64 this.1) := HBB.out.2.2.1.at_ 1
 have c2 : W0.cell? ⟨cb, 2, none⟩ = some (.int .i64 this.2.1) := HBB.out.2.2.1.at_ 2
 have c3 : W0.cell? ⟨cb, 3, none⟩ = some (.string this.2.2) := HBB.out.2.2.1.at_ 3
 have c4 : W0.cell? ⟨cb, 4, none⟩ = some (args) := HBB.out.2.2.1.at_ 4
 have c5 : W0.cell? ⟨cb, 5, none⟩ = some (.int .i64 tgt.1) := HBB.out.2.2.1.at_ 5
 have c6 : W0.cell? ⟨cb, 6, none⟩ = some (.int .i64 tgt.2.1) := HBB.out.2.2.1.at_ 6
 have c7 : W0.cell? ⟨cb, 7, none⟩ = some (.string tgt.2.2) := HBB.out.2.2.1.at_ 7
 go_wp2_with (go_at_call 348; ((with_reducible refine HDO0.out.mono ?_); rintro e w1 ⟨rfl, hq⟩; have HQ := Veil.mk hq; clear hq; have HRB : Veil (Box w1 rb VTy #[.int .i64 0, .int .i64 0, .string ⟨#[]⟩]) := ⟨(by
   obtain ⟨ts2, st2, D, h1, h2, h3, h4⟩ := HQ.out.x
   exact h2.box HBB.out.2.2.2 (by decide) (fun hv => by have := HRR.out.2.2 rb hv; have := HLO.out.2.2; omega))⟩; have z0 : w1.cell? ⟨rb, 0, none⟩ = some (.int .i64 0) := HRB.out.at_ 0; have z1 : w1.cell? ⟨rb, 1, none⟩ = some (.int .i64 0) := HRB.out.at_ 1; have z2 : w1.cell? ⟨rb, 2, none⟩ = some (.string ⟨#[]⟩) := HRB.out.at_ 2; have q0 := HRB.out.free 0; have q1 := HRB.out.free 1; have q2 := HRB.out.free 2))
 have hr3 := ((HRB.out.put 0 (.int .i64 x.1)).put 1 (.int .i64 x.2.1)).put 2 (.string x.2.2)
 have y0 := hr3.at_ 0
 have y1 := hr3.at_ 1
 have y2 := hr3.at_ 2
 have hlo : W.heap.size <= rb := HLO.out.2.2
 have hW0s : W.heap.size <= W0.heap.size := HBB.out.1.size
 have hE : DoP W0 h A m f1 V R (fun k => k = rb) w1 := by
  obtain ⟨ts2, st2, D, h1, h2, h3, h4⟩ := HQ.out.x
  refine ⟨ts2, st2, D, h1, h2, h3, fun k hk => ⟨(h4 k hk).1, fun h9 => ?_, (h4 k hk).2.2⟩⟩
  have hl := HBB.out.2.2.2.lt
  rcases (h4 k hk).2.2 with h8 | h8
  ·have := HRR.out.2.2 k h8
   omega
  ·omega
 have hE1 : DoP W h A m f1 V R (fun k => k = rb) w1 := by
  obtain ⟨ts2, st2, D, h1, h2, h3, h4⟩ := hE.x
  exact ⟨ts2, st2, D, h1, ((Bk.of_below HRR.out.2.1 HBB.out.1).bv V).trans h2 (fun k hk => .inl hk), h3, fun k hk => ⟨(h4 k hk).1, (h4 k hk).2.1, (h4 k hk).2.2.imp id (fun h8 => Nat.le_trans hW0s h8)⟩⟩
 have hE2 := ((hE1.put HRR.out.1 HRB.out.lab rfl hlo HRR.out.2.1 0 (.int .i64 x.1)).put HRR.out.1 (HRB.out.put 0 _).lab rfl hlo HRR.out.2.1 1 (.int .i64 x.2.1)).put HRR.out.1 ((HRB.out.put 0 _).put 1 _).lab rfl hlo HRR.out.2.1 2 (.string x.2.2)
 exact bodyPost_ret (v := (.tuple #[valV x, .int .i64 en])) (by simp [results, Tryz.results347, go_sem, y0, y1, y2]) rfl ⟨rfl, hE2.excl (fun k hk => hk.elim)⟩
section
variable {W W' : World} {h A m : Nat} {f : MF} {os : List OS} {ts ts1 ts2 : List TO}
theorem MP.callNative {t : TO} {p : Nat} (H : MP W h A m f ts) (hr : Rest W A f) (hov : f.ov = false) (hs0 : 0 <= f.st) (hs1 : f.st < 4194304) (hd0 : 0 <= f.dp) (hd1 : f.dp < 20) (hl : ts.length < 100000) (hp : ts[p]? = some t) (h1 : (t.cl == 100) = false) (nid : Int) (hk : t.kd.k = nid) (fn this tgt x : Vt) (en : Int) (args : Value) (a : Option Addr) (n c : Nat) (hag : args = .slice a n c) (V : Nat -> Prop) (hV : ∀ k, V k -> k < W.heap.size /\ ¬ VCf f k) (R : (Nat -> Prop) -> List TO -> Int -> World -> Prop) (hR : RStay A R)
  (HDO : Veil (∀ W1 f1, MP W1 h A m f1 ts -> (∃ na ca, f1 = { f with st := f.st + 1, dp := f.dp + 1, na := na, ca := ca }) -> Bv A (VCf f) W W1 -> (∀ k, VCf f1 k -> VCf f k \/ W.heap.size <= k) -> Calls Tryz.prog 348 #[.pointer (some ⟨m, 0, none⟩), .int .i64 nid, callV t.b this args tgt] W1 fun e w' => e = .returned (.tuple #[valV x, .int .i64 en]) /\ DoP W1 h A m f1 V R (fun _ => False) w')) :
  Calls Tryz.prog 52 #[.pointer (some ⟨m, 0, none⟩), valV fn, callV t.b this args tgt] W fun e w' => e = .returned (.tuple #[valV x, .int .i64 en]) /\ ∃ ts2 st2 D f2, MP w' h A m f2 ts2 /\ (∃ na ca, f2 = { f with st := st2, na := na, ca := ca }) /\ Rest w' A f2 /\ (∀ k, VCf f2 k -> VCf f k \/ W.heap.size <= k) /\ Bv A (fun k => V k \/ VCf f k) W w' /\ R D ts2 st2 w' /\ ∀ k, D k -> k < w'.heap.size /\ ¬ VCf f2 k /\ (V k \/ W.heap.size <= k) := by
 obtain ⟨fo, hfo⟩ : ∃ fo, t.b = fo := ⟨_, rfl⟩
 have hm := List.mem_of_getElem? hp
 have hfb := H.mem_b hm h1
 rw [hfo] at hfb HDO ⊢
 obtain ⟨mb, hmb⟩ : ∃ mb, W.heap.size = mb := ⟨_, rfl⟩
 obtain ⟨fb, hfb⟩ : ∃ fb, mb + 1 = fb := ⟨_, rfl⟩
 obtain ⟨cb, hcb⟩ : ∃ cb, fb + 1 = cb := ⟨_, rfl⟩
 obtain ⟨rb, hrb⟩ : ∃ rb, cb + 1 = rb := ⟨_, rfl⟩
 obtain ⟨W0, hW0⟩ : ∃ W0, ((((W.alloc (.cells #[.pointer (some ⟨m, 0, none⟩)] 25)).alloc (.cells #[.int .i64 fn.1, .int .i64 fn.2.1, .string fn.2.2] VTy)).alloc (.cells #[.pointer (some ⟨fo, 0, none⟩), .int .i64 this.1, .int .i64 this.2.1, .string this.2.2, args, .int .i64 tgt.1, .int .i64 tgt.2.1, .string tgt.2.2] CTy)).alloc (.cells #[.int .i64 0, .int .i64 0, .string ⟨#[]⟩] VTy)) = W0 := ⟨_, rfl⟩
 have bb : Below W.heap.size W W0 := by rw [<- hW0]; exact (((((Below.refl _ _).alloc (Nat.le_refl _) _).alloc (by simp only [World.size_alloc]; omega) _).alloc (by simp only [World.size_alloc]; omega) _).alloc (by simp only [World.size_alloc]; omega) _)
 have xmb : Box W0 mb 25 #[.pointer (some ⟨m, 0, none⟩)] := by have h9 := ((((((Box.new W 25 #[.pointer (some ⟨m, 0, none⟩)]).more (.cells #[.int .i64 fn.1, .int .i64 fn.2.1, .string fn.2.2] VTy))).more (.cells #[.pointer (some ⟨fo, 0, none⟩), .int .i64 this.1, .int .i64 this.2.1, .string this.2.2, args, .int .i64 tgt.1, .int .i64 tgt.2.1, .string tgt.2.2] CTy))).more (.cells #[.int .i64 0, .int .i64 0, .string ⟨#[]⟩] VTy)); rw [hW0, hmb] at h9; exact h9
 have xfb : Box W0 fb VTy #[.int .i64 fn.1, .int .i64 fn.2.1, .string fn.2.2] := by have h9 := ((((Box.new (W.alloc (.cells #[.pointer (some ⟨m, 0, none⟩)] 25)) VTy #[.int .i64 fn.1, .int .i64 fn.2.1, .string fn.2.2]).more (.cells #[.pointer (some ⟨fo, 0, none⟩), .int .i64 this.1, .int .i64 this.2.1, .string this.2.2, args, .int .i64 tgt.1, .int .i64 tgt.2.1, .string tgt.2.2] CTy))).more (.cells #[.int .i64 0, .int .i64 0, .string ⟨#[]⟩] VTy)); rw [hW0, show (W.alloc (.cells #[.pointer (some ⟨m, 0, none⟩)] 25)).heap.size = fb from by simp only [World.size_alloc]; omega] at h9; exact h9
 have xcb : Box W0 cb CTy #[.pointer (some ⟨fo, 0, none⟩), .int .i64 this.1, .int .i64 this.2.1, .string this.2.2, args, .int .i64 tgt.1, .int .i64 tgt.2.1, .string tgt.2.2] := by have h9 := ((Box.new ((W.alloc (.cells #[.pointer (some ⟨m, 0, none⟩)] 25)).alloc (.cells #[.int .i64 fn.1, .int .i64 fn.2.1, .string fn.2.2] VTy)) CTy #[.pointer (some ⟨fo, 0, none⟩), .int .i64 this.1, .int .i64 this.2.1, .string this.2.2, args, .int .i64 tgt.1, .int .i64 tgt.2.1, .string tgt.2.2]).more (.cells #[.int .i64 0, .int .i64 0, .string ⟨#[]⟩] VTy)); rw [hW0, show ((W.alloc (.cells #[.pointer (some ⟨m, 0, none⟩)] 25)).alloc (.cells #[.int .i64 fn.1, .int .i64 fn.2.1, .string fn.2.2] VTy)).heap.size = cb from by simp only [World.size_alloc]; omega] at h9; exact h9
 have xrb : Box W0 rb VTy #[.int .i64 0, .int .i64 0, .string ⟨#[]⟩] := by have h9 := Box.new (((W.alloc (.cells #[.pointer (some ⟨m, 0, none⟩)] 25)).alloc (.cells #[.int .i64 fn.1, .int .i64 fn.2.1, .string fn.2.2] VTy)).alloc (.cells #[.pointer (some ⟨fo, 0, none⟩), .int .i64 this.1, .int .i64 this.2.1, .string this.2.2, args, .int .i64 tgt.1, .int .i64 tgt.2.1, .string tgt.2.2] CTy)) VTy #[.int .i64 0, .int .i64 0, .string ⟨#[]⟩]; rw [hW0, show (((W.alloc (.cells #[.pointer (some ⟨m, 0, none⟩)] 25)).alloc (.cells #[.int .i64 fn.1, .int .i64 fn.2.1, .string fn.2.2] VTy)).alloc (.cells #[.pointer (some ⟨fo, 0, none⟩), .int .i64 this.1, .int .i64 this.2.1, .string this.2.2, args, .int .i64 tgt.1, .int .i64 tgt.2.1, .string tgt.2.2] CTy)).heap.size = rb from by simp only [World.size_alloc]; omega] at h9; exact h9
 have HW0 := Veil.mk (And.intro hW0 (And.intro hmb (And.intro hfb (And.intro hcb (hrb)))))
 have HBB := Veil.mk (And.intro bb (And.intro xmb (And.intro xfb (And.intro xcb (xrb)))))
 have HLO : Veil (W.heap.size <= mb /\ W.heap.size <= fb /\ W.heap.size <= cb /\ W.heap.size <= rb) := ⟨by omega⟩
 clear hW0 bb hmb xmb hfb xfb hcb xcb hrb xrb
 have H0 := H.on HBB.out.1
 have HSP := Veil.mk (H0.spend hov hs0 hs1 hl)
 have HA : Veil (A <= W.heap.size) := ⟨Nat.le_of_lt H.mm.alt⟩
 have HHR := Veil.mk hr
 have HKK := Veil.mk (And.intro hov (And.intro hd0 (And.intro hd1 (And.intro hV (And.intro hR (show args.oneCell' = true from (by rw [hag]; rfl)))))))
 have HTT := Veil.mk (And.intro hp (And.intro h1 (And.intro hk hfo)))
 have HT0 : Veil (∀ w9 f9, MP w9 h A m f9 ts -> w9.cell? ⟨fo, 13, none⟩ = some (.int .i64 nid)) := ⟨fun w9 f9 h9 => by have := h9.mem_b hm h1; rw [hfo] at this; have := this.at_ 13; rw [<- hk]; exact this⟩
 have c0 : W0.cell? ⟨mb, 0, none⟩ = some (.pointer (some ⟨m, 0, none⟩)) := HBB.out.2.1.at_ 0
 clear hov hs0 hs1 hd0 hd1 hl hp h1 hk hV hR hr H hm hfb H0 hfo hag
 go_enter_defers Tryz.func52, Tryz.ntmps52
 go_upto_region 1 with (fail)
 rw [HW0.out.1, HW0.out.2.1, HW0.out.2.2.1, HW0.out.2.2.2.1, HW0.out.2.2.2.2]
 go_upto_region 3 with (first | (go_at_call 90; ((with_reducible refine HSP.out.mono ?_); rintro e w1 ⟨rfl, hm1, hb1⟩; have HM1 := Veil.mk (And.intro hm1 hb1); have HBG := Veil.mk (hm1.begin HKK.out.1 HKK.out.2.1 HKK.out.2.2.1); have c1 : w1.cell? ⟨mb, 0, none⟩ = some (.pointer (some ⟨m, 0, none⟩)) := (hb1.boxE HBB.out.2.1 (by decide)).at_ 0; clear hm1 hb1)) | (go_at_call 91; ((with_reducible refine HBG.out.mono ?_); rintro e w2 ⟨rfl, hm2, hb2⟩; have HM2 := Veil.mk (And.intro hm2 (HM1.out.2.trans hb2)); clear hm2 hb2)))
 have b2 := HM2.out.2.boxE HBB.out.2.1 (by decide)
 have c2 : w2.cell? ⟨mb, 0, none⟩ = some (.pointer (some ⟨m, 0, none⟩)) := b2.at_ 0
 have c26 : w2.cell? ⟨m, 26, none⟩ = some hostV := HM2.out.1.mm.mb.at_ 26
 clear c0 c1 HBG HSP HM1 b2
 go_upto_region 6 with (fail)
 obtain ⟨ic0, ic1, ic2, ic3, ic4⟩ := info_parts Tryz.infoCl
 obtain ⟨iv0, iv1, iv2, iv3, iv4⟩ := info_parts Tryz.infoW
 obtain ⟨WD, hWD⟩ : ∃ WD, w2.drew = WD := ⟨_, rfl⟩
 have hdr : Below w2.heap.size w2 WD := by rw [<- hWD]; exact (Below.refl _ _).drew
 have hA2 := Nat.le_of_lt HM2.out.1.mm.alt
 have hbk : Bk A W0 WD := HM2.out.2.trans (Bk.of_below hA2 hdr)
 have hbkW : Bk A W WD := (Bk.of_below HA.out HBB.out.1).trans hbk
 have HMD : Veil (MP WD h A m { f with st := f.st + 1, dp := f.dp + 1 } ts /\ Rest WD A { f with st := f.st + 1, dp := f.dp + 1 }) := ⟨HM2.out.1.on hdr, (HHR.out.bk hbkW).na, (HHR.out.bk hbkW).ca⟩
 have HXmb := Veil.mk (hbk.boxE HBB.out.2.1 (by decide))
 have HXfb := Veil.mk (hbk.boxE HBB.out.2.2.1 (by decide))
 have HXcb := Veil.mk (hbk.boxE HBB.out.2.2.2.1 (by decide))
 have HXrb := Veil.mk (hbk.boxE HBB.out.2.2.2.2 (by decide))
 have hnv : ∀ q, W.heap.size <= q -> ¬ VCf { f with st := f.st + 1, dp := f.dp + 1 } q := fun q hq hv => by have := (HHR.out.lt (show VCf f q from hv)).2; omega
 have HNV := Veil.mk (And.intro (hnv mb HLO.out.1) (And.intro (hnv fb HLO.out.2.1) (And.intro (hnv cb HLO.out.2.2.1) (hnv rb HLO.out.2.2.2))))
 have HBK := Veil.mk (And.intro hbkW (Nat.le_trans HBB.out.1.size hbk.bel.size))
 have HWD := Veil.mk hWD
 have HOA := Veil.mk HKK.out.2.2.2.2.2
 clear hWD hdr hA2 hbk hbkW hnv c2 c26 HM2 HBB HHR
 refine wp_region_chain [qp m 0, qp m 0, qp m 0, qp m 0, qp m 44, qq f.na, qq (callV fo this args tgt), none, none, qp m 0, qp m 0, qp m 45, qq f.ca, qv fn, none, none, qp m 0, qp m 44, none, qp m 0, qp m 45, none] (NK WD h A m { f with st := f.st + 1, dp := f.dp + 1 } ts (cL fo this args tgt) (vL fn)) [some 29, some 30, some 31, some 32, some 33, some 34, some 35, some 36, some 37, some 38, some 39, some 40, some 41, some 42, some 43, some 44, some 45, some 46, none, some 47, some 48, none] (curV' _ [some 29, some 30, some 31, some 32, some 33, some 34, some 35, some 36, some 37, some 38, some 39, some 40, some 41, some 42, some 43, some 44, some 45, some 46, none, some 47, some 48, none]) (by kernel_rfl) rfl rfl (puts_cur _ _) (by rw [HWD.out]; exact NK.start HMD.out.1 HMD.out.2) ?_ (by kernel_rfl) ?_
 ·refine SY (fun w' S => ?_) ?_
  ·obtain ⟨⟩ := n22 S.hu
   have hbx := S.hI.ph.bv.box HXmb.out (by decide) HNV.out.1
   have c0 : w'.cell? ⟨mb, 0, none⟩ = some (.pointer (some ⟨m, 0, none⟩)) := hbx.at_ 0
   clear hbx
   rw [pin S.ha]
   go_simp
   exact S.kS 0 _ (S.hI.ph.pure 0 _ (by decide))
  refine SY (fun w' S => ?_) ?_
  ·obtain ⟨⟩ := n22 S.hu
   have hbx := S.hI.ph.bv.box HXmb.out (by decide) HNV.out.1
   have c0 : w'.cell? ⟨mb, 0, none⟩ = some (.pointer (some ⟨m, 0, none⟩)) := hbx.at_ 0
   clear hbx
   rw [pin S.ha]
   go_simp
   exact S.kS 1 _ (S.hI.ph.pure 1 _ (by decide))
  refine SY (fun w' S => ?_) ?_
  ·obtain ⟨⟩ := n22 S.hu
   have hbx := S.hI.ph.bv.box HXmb.out (by decide) HNV.out.1
   have c0 : w'.cell? ⟨mb, 0, none⟩ = some (.pointer (some ⟨m, 0, none⟩)) := hbx.at_ 0
   clear hbx
   rw [pin S.ha]
   go_simp
   exact S.kS 2 _ (S.hI.ph.pure 2 _ (by decide))
  refine SY (fun _ S => ?_) ?_
  ·obtain ⟨⟩ := n22 S.hu
   obtain rfl := S.q 2
   rw [pin S.ha]
   go_simp
   exact S.kS 3 _ (S.hI.ph.pure 3 _ (by decide))
  refine SY (fun _ S => ?_) ?_
  ·obtain ⟨⟩ := n22 S.hu
   obtain rfl := S.q 3
   rw [pin S.ha]
   go_simp
   exact S.kS 4 _ (S.hI.ph.pure 4 _ (by decide))
  refine SY (fun w' S => ?_) ?_
  ·obtain ⟨⟩ := n22 S.hu
   obtain rfl := S.q 4
   have hz := (S.hI.bwd [5] 18 5 (by kernel_rfl) rfl S.h0)
   have c0 : w'.cell? ⟨m, 44, none⟩ = some f.na := S.hI.ph.c44 hz
   clear hz
   rw [pin S.ha]
   go_simp
   exact S.kS 5 _ (S.hI.ph.pure 5 _ (by decide))
  refine SY (fun w' S => ?_) ?_
  ·obtain ⟨⟩ := n22 S.hu
   have hbx := S.hI.ph.bv.box HXcb.out (by decide) HNV.out.2.2.1
   have c0 : w'.cell? ⟨cb, 0, none⟩ = some _ := hbx.at_ 0
   have c1 : w'.cell? ⟨cb, 1, none⟩ = some _ := hbx.at_ 1
   have c2 : w'.cell? ⟨cb, 2, none⟩ = some _ := hbx.at_ 2
   have c3 : w'.cell? ⟨cb, 3, none⟩ = some _ := hbx.at_ 3
   have c4 : w'.cell? ⟨cb, 4, none⟩ = some _ := hbx.at_ 4
   have c5 : w'.cell? ⟨cb, 5, none⟩ = some _ := hbx.at_ 5
   have c6 : w'.cell? ⟨cb, 6, none⟩ = some _ := hbx.at_ 6
   have c7 : w'.cell? ⟨cb, 7, none⟩ = some _ := hbx.at_ 7
   clear hbx
   rw [pin S.ha]
   go_simp
   exact S.kS 6 _ (S.hI.ph.pure 6 _ (by decide))
  refine SY (fun _ S => ?_) ?_
  ·obtain ⟨⟩ := n22 S.hu
   obtain rfl := S.q 6
   rw [pin S.ha]
   go_simp
   exact S.kN 7 _ (S.hI.ph.mk7 S.h0)
  refine SY (fun _ S => ?_) ?_
  ·obtain ⟨_, _, _, _, _, _, _, u7⟩ := n22 S.hu
   obtain rfl := S.q 5
   have ho := S.hI.ph.n.z S.h0
   have hj := gen_after 7 (by kernel_rfl) S.hp
   obtain ⟨gq, hgq, hcq⟩ := S.hI.ph.n.b hj
   have hcq := (hcq S.h0).2
   replace hgq : u7 = .slice (some ⟨gq, 0, none⟩) 1 1 := hgq
   subst hgq
   have hAq := Nat.le_of_lt S.hI.ph.mp.mm.alt
   have hz := (S.hI.bwd [8] 18 8 (by kernel_rfl) rfl S.h0)
   rw [pin S.ha]
   refine wp_append_lies _ (.tmp 34) (.tmp 36) 51 rfl A CTy ic0 (.agg #[.pointer none, .int .i64 0, .int .i64 0, .string ⟨#[]⟩, .slice none 0 0, .int .i64 0, .int .i64 0, .string ⟨#[]⟩]) 8 96 Tryz.underlying51 ic1 ic2 ic3 ic4 rfl (by decide) f.na 0 [] (by simp [Act.eval]) ho ⟨gq, 0, none⟩ 1 1 (cL fo this args tgt) (by simp [Act.eval]) rfl hcq (cL_one HOA.out) (by decide) (by unfold maxLen; omega) (by omega) hAq _ rfl ?_
   intro r cap' w3 hown' hgrow3 hblk hg3
   exact S.hK _ _ (chain_step S.hI S.hu S.hs 8 _ (by show 8 < 22; decide) rfl S.hp (none_of rfl) (S.hI.ph.app8 hj S.h0 hz hown' hgrow3 hblk) (by simp only [Act.put, puts, setAll, List.set_cons_zero, List.set_cons_succ, List.setIfInBounds_toArray]))
  refine SY (fun w' S => ?_) ?_
  ·obtain ⟨⟩ := n22 S.hu
   have hbx := S.hI.ph.bv.box HXmb.out (by decide) HNV.out.1
   have c0 : w'.cell? ⟨mb, 0, none⟩ = some (.pointer (some ⟨m, 0, none⟩)) := hbx.at_ 0
   clear hbx
   rw [pin S.ha]
   go_simp
   exact S.kS 9 _ (S.hI.ph.pure 9 _ (by decide))
  refine SY (fun _ S => ?_) ?_
  ·obtain ⟨⟩ := n22 S.hu
   obtain rfl := S.q 9
   rw [pin S.ha]
   go_simp
   exact S.kS 10 _ (S.hI.ph.pure 10 _ (by decide))
  refine SY (fun _ S => ?_) ?_
  ·obtain ⟨⟩ := n22 S.hu
   obtain rfl := S.q 10
   rw [pin S.ha]
   go_simp
   exact S.kS 11 _ (S.hI.ph.pure 11 _ (by decide))
  refine SY (fun w' S => ?_) ?_
  ·obtain ⟨⟩ := n22 S.hu
   obtain rfl := S.q 11
   have hz := (S.hI.bwd [12] 21 12 (by kernel_rfl) rfl S.h0)
   have c0 : w'.cell? ⟨m, 45, none⟩ = some f.ca := S.hI.ph.c45 hz
   clear hz
   rw [pin S.ha]
   go_simp
   exact S.kS 12 _ (S.hI.ph.pure 12 _ (by decide))
  refine SY (fun w' S => ?_) ?_
  ·obtain ⟨⟩ := n22 S.hu
   have hbx := S.hI.ph.bv.box HXfb.out (by decide) HNV.out.2.1
   have c0 : w'.cell? ⟨fb, 0, none⟩ = some _ := hbx.at_ 0
   have c1 : w'.cell? ⟨fb, 1, none⟩ = some _ := hbx.at_ 1
   have c2 : w'.cell? ⟨fb, 2, none⟩ = some _ := hbx.at_ 2
   clear hbx
   rw [pin S.ha]
   go_simp
   exact S.kS 13 _ (S.hI.ph.pure 13 _ (by decide))
  refine SY (fun _ S => ?_) ?_
  ·obtain ⟨⟩ := n22 S.hu
   obtain rfl := S.q 13
   rw [pin S.ha]
   go_simp
   exact S.kN 14 _ (S.hI.ph.mk14 S.h0)
  refine SY (fun _ S => ?_) ?_
  ·obtain ⟨_, _, _, _, _, _, _, _, _, _, _, _, _, _, u14⟩ := n22 S.hu
   obtain rfl := S.q 12
   have ho := S.hI.ph.c.z S.h0
   have hj := gen_after 14 (by kernel_rfl) S.hp
   obtain ⟨gq, hgq, hcq⟩ := S.hI.ph.c.b hj
   have hcq := (hcq S.h0).2
   replace hgq : u14 = .slice (some ⟨gq, 0, none⟩) 1 1 := hgq
   subst hgq
   have hAq := Nat.le_of_lt S.hI.ph.mp.mm.alt
   have hz := (S.hI.bwd [15] 18 15 (by kernel_rfl) rfl S.h0)
   have hz2 := (S.hI.bwd [15] 21 15 (by kernel_rfl) rfl S.h0)
   rw [pin S.ha]
   refine wp_append_lies _ (.tmp 41) (.tmp 43) 30 rfl A VTy iv0 (.agg #[.int .i64 0, .int .i64 0, .string ⟨#[]⟩]) 3 32 Tryz.underlying30 iv1 iv2 iv3 iv4 rfl (by decide) f.ca 0 [] (by simp [Act.eval]) ho ⟨gq, 0, none⟩ 1 1 (vL fn) (by simp [Act.eval]) rfl hcq (by simp [Value.oneCell']) (by decide) (by unfold maxLen; omega) (by omega) hAq _ rfl ?_
   intro r cap' w3 hown' hgrow3 hblk hg3
   exact S.hK _ _ (chain_step S.hI S.hu S.hs 15 _ (by show 15 < 22; decide) rfl S.hp (none_of rfl) (S.hI.ph.app15 hj S.h0 hz hz2 hown' hgrow3 hblk) (by simp only [Act.put, puts, setAll, List.set_cons_zero, List.set_cons_succ, List.setIfInBounds_toArray]))
  refine SY (fun _ S => ?_) ?_
  ·obtain ⟨⟩ := n22 S.hu
   obtain rfl := S.q 0
   rw [pin S.ha]
   go_simp
   exact S.kS 16 _ (S.hI.ph.pure 16 _ (by decide))
  refine SY (fun _ S => ?_) ?_
  ·obtain ⟨⟩ := n22 S.hu
   obtain rfl := S.q 16
   rw [pin S.ha]
   go_simp
   exact S.kS 17 _ (S.hI.ph.pure 17 _ (by decide))
  refine SY (fun w' S => ?_) ?_
  ·obtain ⟨_, _, _, _, _, _, _, _, u8⟩ := n22 S.hu
   obtain rfl := S.q 17
   have hj := gen_after 8 (by kernel_rfl) S.hp
   obtain ⟨-, r8, k8, hu8, -⟩ := S.hI.ph.n.s hj
   replace hu8 : u8 = .slice (some ⟨r8, 0, none⟩) (0 + 1) k8 := hu8
   subst hu8
   have c0 : w'.cell? ⟨m, 44, none⟩ = some f.na := S.hI.ph.c44 S.h0
   have f0 := S.hI.ph.mp.mm.mb.free 44
   rw [pin S.ha]
   go_simp
   exact S.kN 18 undef (S.hI.ph.set18 S.h0 undef)
  refine SY (fun _ S => ?_) ?_
  ·obtain ⟨⟩ := n22 S.hu
   obtain rfl := S.q 1
   rw [pin S.ha]
   go_simp
   exact S.kS 19 _ (S.hI.ph.pure 19 _ (by decide))
  refine SY (fun _ S => ?_) ?_
  ·obtain ⟨⟩ := n22 S.hu
   obtain rfl := S.q 19
   rw [pin S.ha]
   go_simp
   exact S.kS 20 _ (S.hI.ph.pure 20 _ (by decide))
  refine SY (fun w' S => ?_) ?_
  ·obtain ⟨_, _, _, _, _, _, _, _, _, _, _, _, _, _, _, u15⟩ := n22 S.hu
   obtain rfl := S.q 20
   have hj := gen_after 15 (by kernel_rfl) S.hp
   obtain ⟨-, r8, k8, hu8, -⟩ := S.hI.ph.c.s hj
   replace hu8 : u15 = .slice (some ⟨r8, 0, none⟩) (0 + 1) k8 := hu8
   subst hu8
   have c0 : w'.cell? ⟨m, 45, none⟩ = some f.ca := S.hI.ph.c45 S.h0
   have f0 := S.hI.ph.mp.mm.mb.free 45
   rw [pin S.ha]
   go_simp
   exact S.kN 21 undef (S.hI.ph.set21 S.h0 undef)
  exact Steps.nil
 ·intro us wE hus dd hD2 hJ
  obtain ⟨p0, p1, p2, p3, p4, p5, p6, p7, p8, p9, p10, p11, p12, p13, p14, p15, p16, p17, p18, p19⟩ := n22 hus
  have hph := hJ.ph
  obtain rfl := hJ.vq 0 hD2
  obtain rfl := hJ.vq 1 hD2
  obtain rfl := hJ.vq 2 hD2
  obtain rfl := hJ.vq 3 hD2
  obtain rfl := hJ.vq 4 hD2
  obtain rfl := hJ.vq 5 hD2
  obtain rfl := hJ.vq 6 hD2
  obtain rfl := hJ.vq 9 hD2
  obtain rfl := hJ.vq 10 hD2
  obtain rfl := hJ.vq 11 hD2
  obtain rfl := hJ.vq 12 hD2
  obtain rfl := hJ.vq 13 hD2
  obtain rfl := hJ.vq 16 hD2
  obtain rfl := hJ.vq 17 hD2
  obtain rfl := hJ.vq 19 hD2
  obtain rfl := hJ.vq 20 hD2
  clear hJ
  obtain ⟨-, r8, k8, hu8, ho8, hn8⟩ := hph.n.s (hD2 8 (by show 8 < 22; decide))
  replace hu8 : p8 = .slice (some ⟨r8, 0, none⟩) (0 + 1) k8 := hu8
  subst hu8
  obtain ⟨-, r15, k15, hu15, ho15, hn15⟩ := hph.c.s (hD2 15 (by show 15 < 22; decide))
  replace hu15 : p15 = .slice (some ⟨r15, 0, none⟩) (0 + 1) k15 := hu15
  subst hu15
  have hmp := hph.mp
  rw [(hD2 18 (by show 18 < 22; decide)), (hD2 21 (by show 21 < 22; decide))] at hmp
  replace hmp : MP wE h A m { f with st := f.st + 1, dp := f.dp + 1, na := .slice (some ⟨r8, 0, none⟩) (0 + 1) k8, ca := .slice (some ⟨r15, 0, none⟩) (0 + 1) k15 } ts := hmp
  have hvc : ∀ k, VCf { f with st := f.st + 1, dp := f.dp + 1, na := .slice (some ⟨r8, 0, none⟩) (0 + 1) k8, ca := .slice (some ⟨r15, 0, none⟩) (0 + 1) k15 } k -> VCf f k \/ WD.heap.size <= k := fun k hk => by
   rcases hk with hk | hk
   ·cases hk; exact hn8.imp (fun e => .inl e) (fun e => e)
   ·cases hk; exact hn15.imp (fun e => .inr e) (fun e => e)
  have HZ := Veil.mk (And.intro hmp (And.intro hph.bv (And.intro ho8 (And.intro ho15 hvc))))
  have HXb := Veil.mk (And.intro (HZ.out.2.1.box HXmb.out (by decide) HNV.out.1) (And.intro (HZ.out.2.1.box HXfb.out (by decide) HNV.out.2.1) (And.intro (HZ.out.2.1.box HXcb.out (by decide) HNV.out.2.2.1) (HZ.out.2.1.box HXrb.out (by decide) HNV.out.2.2.2))))
  clear hph hD2 hmp ho8 ho15 hn8 hn15 hvc HMD HXmb HXfb HXcb
  simp only [puts, setAll, List.setIfInBounds_toArray, List.set_cons_zero, List.set_cons_succ]
  have HXX0 := HXb
  have e0 : wE.cell? ⟨mb, 0, none⟩ = some (.pointer (some ⟨m, 0, none⟩)) := HXb.out.1.at_ 0
  have HNB : Veil (¬ VCf { f with st := f.st + 1, dp := f.dp + 1, na := .slice (some ⟨r8, 0, none⟩) (0 + 1) k8, ca := .slice (some ⟨r15, 0, none⟩) (0 + 1) k15 } rb) := ⟨fun hv => (HZ.out.2.2.2.2 rb hv).elim (fun h9 => HNV.out.2.2.2 h9) (fun h9 => by have := HXrb.out.lt; omega)⟩
  clear HWD HXrb
  go_upto_region 8 with (fail)
  obtain ⟨WX, hWX⟩ : ∃ WX, wE.drew = WX := ⟨_, rfl⟩
  have hdr : Below wE.heap.size wE WX := by rw [<- hWX]; exact (Below.refl _ _).drew
  have hAE := Nat.le_of_lt HZ.out.1.mm.alt
  have HMX := Veil.mk (HZ.out.1.on hdr)
  have HXX := Veil.mk (And.intro (HXb.out.1.below hdr) (And.intro (HXb.out.2.1.below hdr) (And.intro (HXb.out.2.2.1.below hdr) (HXb.out.2.2.2.below hdr))))
  have hbE : Bv A (VCf f) W wE := (HBK.out.1.bv (VCf f)).trans HZ.out.2.1 (fun k hk => .inl hk)
  have hbX : Bv A (VCf f) W WX := hbE.trans ((Bk.of_below hAE hdr).bv (fun _ => False)) (fun k hk => hk.elim)
  have HBX := Veil.mk hbX
  have hsX : W.heap.size <= WX.heap.size := hbX.bel.size
  have HROW := Veil.mk (And.intro (own_blk HZ.out.2.2.1 (fun k hk => hdr.block k (HZ.out.2.2.1.lt k hk).2)) (own_blk HZ.out.2.2.2.1 (fun k hk => hdr.block k (HZ.out.2.2.2.1.lt k hk).2)))
  have HVC : Veil (∀ k, VCf { f with st := f.st + 1, dp := f.dp + 1, na := .slice (some ⟨r8, 0, none⟩) (0 + 1) k8, ca := .slice (some ⟨r15, 0, none⟩) (0 + 1) k15 } k -> VCf f k \/ W.heap.size <= k) := ⟨fun k hk => (HZ.out.2.2.2.2 k hk).imp (fun h9 => h9) (fun h9 => Nat.le_trans HBK.out.1.bel.size h9)⟩
  have HRR : Veil (RStay A R /\ A <= WX.heap.size /\ ∀ k, V k -> k < WX.heap.size) := ⟨HKK.out.2.2.2.2.1, Nat.le_trans HA.out hsX, fun k hk => Nat.lt_of_lt_of_le (HKK.out.2.2.2.1 k hk).1 hsX⟩
  have HFO : Veil (∀ w', Below WX.heap.size WX w' -> w'.cell? ⟨fo, 13, none⟩ = some (.int .i64 nid)) := ⟨fun w' hb => HT0.out w' _ (HMX.out.on hb)⟩
  have HDO : Veil (∀ W', Below WX.heap.size WX W' -> Calls Tryz.prog 348 #[.pointer (some ⟨m, 0, none⟩), .int .i64 nid, callV fo this args tgt] W' fun e w' => e = .returned (.tuple #[valV x, .int .i64 en]) /\ DoP W' h A m { f with st := f.st + 1, dp := f.dp + 1, na := .slice (some ⟨r8, 0, none⟩) (0 + 1) k8, ca := .slice (some ⟨r15, 0, none⟩) (0 + 1) k15 } V R (fun _ => False) w') := ⟨fun W' hb => HDO.out W' _ (HMX.out.on hb) ⟨_, _, rfl⟩ (HBX.out.trans ((Bk.of_below (Nat.le_trans HA.out hsX) hb).bv (fun _ => False)) (fun k hk => hk.elim)) HVC.out⟩
  have HWX := Veil.mk hWX
  clear hWX hdr hAE hbE hbX hsX HZ HXb e0
  refine wp_region_chain [qp m 0, qp m 0, qp m 26, qq hostV, qp m 0, qp cb 0, qp fo 0, qp fo 0, qp fo 13, qi nid, qq (callV fo this args tgt), qq hostV, qq hostV, qq (.tuple #[valV x, .int .i64 en]), qq (.tuple #[valV x, .int .i64 en]), qv x, qi en, none, none, qi en] (BX WX h A m { f with st := f.st + 1, dp := f.dp + 1, na := .slice (some ⟨r8, 0, none⟩) (0 + 1) k8, ca := .slice (some ⟨r15, 0, none⟩) (0 + 1) k15 } V R x) [some 51, some 52, some 53, some 54, some 55, some 56, some 57, some 58, some 59, some 60, some 61, some 62, some 63, some 64, some 50, some 65, some 66, some 8, none, some 9] (curV' _ [some 51, some 52, some 53, some 54, some 55, some 56, some 57, some 58, some 59, some 60, some 61, some 62, some 63, some 64, some 50, some 65, some 66, some 8, none, some 9]) (by kernel_rfl) rfl rfl (puts_cur _ _) (by rw [HWX.out]; exact BX.start) ?_ (by kernel_rfl) ?_
  ·refine SY (fun w' S => ?_) ?_
   ·obtain ⟨⟩ := n20 S.hu
    have hz := (S.hI.bwd [12, 3, 2, 1, 0] 13 0 (by kernel_rfl) rfl S.h0)
    have hbl := S.hI.ph.s0 hz
    have c0 : w'.cell? ⟨mb, 0, none⟩ = some (.pointer (some ⟨m, 0, none⟩)) := (HXX.out.1.below hbl).at_ 0
    clear hbl hz
    rw [pin S.ha]
    go_simp
    exact S.kS 0 _ (S.hI.ph.pure 0 _ (by decide))
   refine SY (fun _ S => ?_) ?_
   ·obtain ⟨⟩ := n20 S.hu
    obtain rfl := S.q 0
    rw [pin S.ha]
    go_simp
    exact S.kS 1 _ (S.hI.ph.pure 1 _ (by decide))
   refine SY (fun _ S => ?_) ?_
   ·obtain ⟨⟩ := n20 S.hu
    obtain rfl := S.q 1
    rw [pin S.ha]
    go_simp
    exact S.kS 2 _ (S.hI.ph.pure 2 _ (by decide))
   refine SY (fun w' S => ?_) ?_
   ·obtain ⟨⟩ := n20 S.hu
    obtain rfl := S.q 2
    have hz := (S.hI.bwd [12, 3] 13 3 (by kernel_rfl) rfl S.h0)
    have hbl := S.hI.ph.s0 hz
    have c0 : w'.cell? ⟨m, 26, none⟩ = some (hostV) := (HMX.out.on hbl).mm.mb.at_ 26
    clear hbl hz
    rw [pin S.ha]
    go_simp
    exact S.kS 3 _ (S.hI.ph.pure 3 _ (by decide))
   refine SY (fun w' S => ?_) ?_
   ·obtain ⟨⟩ := n20 S.hu
    have hz := (S.hI.bwd [4] 13 4 (by kernel_rfl) rfl S.h0)
    have hbl := S.hI.ph.s0 hz
    have c0 : w'.cell? ⟨mb, 0, none⟩ = some (.pointer (some ⟨m, 0, none⟩)) := (HXX.out.1.below hbl).at_ 0
    clear hbl hz
    rw [pin S.ha]
    go_simp
    exact S.kS 4 _ (S.hI.ph.pure 4 _ (by decide))
   refine SY (fun _ S => ?_) ?_
   ·obtain ⟨⟩ := n20 S.hu
    rw [pin S.ha]
    go_simp
    exact S.kS 5 _ (S.hI.ph.pure 5 _ (by decide))
   refine SY (fun w' S => ?_) ?_
   ·obtain ⟨⟩ := n20 S.hu
    obtain rfl := S.q 5
    have hz := (S.hI.bwd [9, 8, 7, 6] 13 6 (by kernel_rfl) rfl S.h0)
    have hbl := S.hI.ph.s0 hz
    have c0 : w'.cell? ⟨cb, 0, none⟩ = some (.pointer (some ⟨fo, 0, none⟩)) := (HXX.out.2.2.1.below hbl).at_ 0
    clear hbl hz
    rw [pin S.ha]
    go_simp
    exact S.kS 6 _ (S.hI.ph.pure 6 _ (by decide))
   refine SY (fun _ S => ?_) ?_
   ·obtain ⟨⟩ := n20 S.hu
    obtain rfl := S.q 6
    rw [pin S.ha]
    go_simp
    exact S.kS 7 _ (S.hI.ph.pure 7 _ (by decide))
   refine SY (fun _ S => ?_) ?_
   ·obtain ⟨⟩ := n20 S.hu
    obtain rfl := S.q 7
    rw [pin S.ha]
    go_simp
    exact S.kS 8 _ (S.hI.ph.pure 8 _ (by decide))
   refine SY (fun w' S => ?_) ?_
   ·obtain ⟨⟩ := n20 S.hu
    obtain rfl := S.q 8
    have hz := (S.hI.bwd [9] 13 9 (by kernel_rfl) rfl S.h0)
    have hbl := S.hI.ph.s0 hz
    have c0 : w'.cell? ⟨fo, 13, none⟩ = some (.int .i64 nid) := HFO.out w' hbl
    clear hbl hz
    rw [pin S.ha]
    go_simp
    exact S.kS 9 _ (S.hI.ph.pure 9 _ (by decide))
   refine SY (fun w' S => ?_) ?_
   ·obtain ⟨⟩ := n20 S.hu
    have hz := (S.hI.bwd [10] 13 10 (by kernel_rfl) rfl S.h0)
    have hbl := S.hI.ph.s0 hz
    have c0 : w'.cell? ⟨cb, 0, none⟩ = some (.pointer (some ⟨fo, 0, none⟩)) := (HXX.out.2.2.1.below hbl).at_ 0
    have c1 : w'.cell? ⟨cb, 1, none⟩ = some (.int .i64 this.1) := (HXX.out.2.2.1.below hbl).at_ 1
    have c2 : w'.cell? ⟨cb, 2, none⟩ = some (.int .i64 this.2.1) := (HXX.out.2.2.1.below hbl).at_ 2
    have c3 : w'.cell? ⟨cb, 3, none⟩ = some (.string this.2.2) := (HXX.out.2.2.1.below hbl).at_ 3
    have c4 : w'.cell? ⟨cb, 4, none⟩ = some (args) := (HXX.out.2.2.1.below hbl).at_ 4
    have c5 : w'.cell? ⟨cb, 5, none⟩ = some (.int .i64 tgt.1) := (HXX.out.2.2.1.below hbl).at_ 5
    have c6 : w'.cell? ⟨cb, 6, none⟩ = some (.int .i64 tgt.2.1) := (HXX.out.2.2.1.below hbl).at_ 6
    have c7 : w'.cell? ⟨cb, 7, none⟩ = some (.string tgt.2.2) := (HXX.out.2.2.1.below hbl).at_ 7
    clear hbl hz
    rw [pin S.ha]
    go_simp
    exact S.kS 10 _ (S.hI.ph.pure 10 _ (by decide))
   refine SY (fun _ S => ?_) ?_
   ·obtain ⟨_, _, _, u3⟩ := n20 S.hu
    obtain rfl : u3 = _ := S.q 3
    rw [pin S.ha]
    go_simp
    exact S.kS 11 _ (S.hI.ph.pure 11 _ (by decide))
   refine SY (fun _ S => ?_) ?_
   ·obtain ⟨_, _, _, u3, _, _, _, _, _, _, _, u11⟩ := n20 S.hu
    obtain rfl : u3 = _ := S.q 3
    obtain rfl : u11 = _ := S.q 11
    rw [pin S.ha]
    go_simp
    exact S.kS 12 _ (S.hI.ph.pure 12 _ (by decide))
   refine SY (fun _ S => ?_) ?_
   ·obtain ⟨_, _, _, _, _, _, _, _, _, _, _, _, u12⟩ := n20 S.hu
    obtain rfl : u12 = _ := S.q 12
    obtain rfl := S.q 4
    obtain rfl := S.q 9
    obtain rfl := S.q 10
    have h18 := (S.hI.bwd [13] 18 13 (by kernel_rfl) rfl S.h0)
    have hbl := S.hI.ph.s0 S.h0
    have HX9 := Veil.mk (host_native HRR.out.1 (Nat.le_trans HRR.out.2.1 hbl.size) (fun k hk => Nat.lt_of_lt_of_le (HRR.out.2.2 k hk) hbl.size) nid fo this tgt x en args ⟨fun W' hb => HDO.out W' (hbl.trans (hb.mono hbl.size))⟩)
    clear hbl
    rw [pin S.ha]
    have hgm := native_method
    go_simp
    clear hgm
    go_at_call 347
    refine HX9.out.mono ?_
    rintro e9 w9 ⟨rfl, hq9⟩
    go_simp
    exact S.kS 13 _ (S.hI.ph.call HRR.out.2.1 S.h0 h18 HRR.out.2.2 hq9 _)
   refine SY (fun _ S => ?_) ?_
   ·obtain ⟨⟩ := n20 S.hu
    obtain rfl := S.q 13
    rw [pin S.ha]
    go_simp
    exact S.kS 14 _ (S.hI.ph.pure 14 _ (by decide))
   refine SY (fun _ S => ?_) ?_
   ·obtain ⟨⟩ := n20 S.hu
    obtain rfl := S.q 14
    rw [pin S.ha]
    go_simp
    exact S.kS 15 _ (S.hI.ph.pure 15 _ (by decide))
   refine SY (fun _ S => ?_) ?_
   ·obtain ⟨⟩ := n20 S.hu
    obtain rfl := S.q 14
    rw [pin S.ha]
    go_simp
    exact S.kS 16 _ (S.hI.ph.pure 16 _ (by decide))
   refine SY (fun _ S => ?_) ?_
   ·obtain ⟨⟩ := n20 S.hu
    have h18 := (S.hI.bwd [17] 18 17 (by kernel_rfl) rfl S.h0)
    rw [pin S.ha]
    go_simp
    exact S.kN 17 _ (S.hI.ph.mk17 HRR.out.1 h18)
   refine SY (fun w' S => ?_) ?_
   ·obtain ⟨_, _, _, _, _, _, _, _, _, _, _, _, _, _, _, _, _, u17⟩ := n20 S.hu
    obtain rfl := S.q 15
    have h13 := (gen_after 13 (by kernel_rfl) S.hp)
    have h17 := gen_after 17 (by kernel_rfl) S.hp
    obtain ⟨g, hg, hlo, hz9, -⟩ := S.hI.ph.b h17
    replace hg : u17 = .pointer (some ⟨g, 0, none⟩) := hg
    subst hg
    have hzb := hz9 S.h0
    have z0 : w'.cell? ⟨g, 0, none⟩ = some (.int .i64 0) := hzb.at_ 0
    have z1 : w'.cell? ⟨g, 1, none⟩ = some (.int .i64 0) := hzb.at_ 1
    have z2 : w'.cell? ⟨g, 2, none⟩ = some (.string ⟨#[]⟩) := hzb.at_ 2
    have q0 := hzb.free 0
    have q1 := hzb.free 1
    have q2 := hzb.free 2
    clear hzb hz9
    rw [pin S.ha]
    go_simp
    exact S.kN 18 undef (S.hI.ph.sto HRR.out.1 HRR.out.2.1 h13 h17 S.h0 rfl _)
   refine SY (fun _ S => ?_) ?_
   ·obtain ⟨⟩ := n20 S.hu
    obtain rfl := S.q 16
    rw [pin S.ha]
    go_simp
    exact S.kS 19 _ (S.hI.ph.pure 19 _ (by decide))
   exact Steps.nil
  ·intro us wE hus dd hD2 hJ
   obtain ⟨p0, p1, p2, p3, p4, p5, p6, p7, p8, p9, p10, p11, p12, p13, p14, p15, p16, p17, p18, p19, rfl⟩ := lenA20 hus
   have hph := hJ.ph
   obtain rfl := hJ.vq 0 hD2
   obtain rfl := hJ.vq 1 hD2
   obtain rfl := hJ.vq 2 hD2
   obtain rfl : p3 = _ := hJ.vq 3 hD2
   obtain rfl := hJ.vq 4 hD2
   obtain rfl := hJ.vq 5 hD2
   obtain rfl := hJ.vq 6 hD2
   obtain rfl := hJ.vq 7 hD2
   obtain rfl := hJ.vq 8 hD2
   obtain rfl := hJ.vq 9 hD2
   obtain rfl := hJ.vq 10 hD2
   obtain rfl : p11 = _ := hJ.vq 11 hD2
   obtain rfl : p12 = _ := hJ.vq 12 hD2
   obtain rfl := hJ.vq 13 hD2
   obtain rfl := hJ.vq 14 hD2
   obtain rfl := hJ.vq 15 hD2
   obtain rfl := hJ.vq 16 hD2
   obtain rfl := hJ.vq 19 hD2
   clear hJ
   obtain ⟨gv, hgv, hgl, -, hgb⟩ := hph.b (hD2 17 (by show 17 < 20; decide))
   replace hgv : p17 = .pointer (some ⟨gv, 0, none⟩) := hgv
   subst hgv
   have hgb := hgb (hD2 18 (by show 18 < 20; decide))
   have hdo := hph.s1 (hD2 13 (by show 13 < 20; decide))
   have hdo := hdo.excl (E' := fun k => k = gv) (fun k hk => .inl ⟨(hD2 17 (by show 17 < 20; decide)), by subst hk; rfl⟩)
   have HQ := Veil.mk (And.intro hdo (And.intro hgb hgl))
   clear hph hD2 hdo hgb hgl HDO HFO
   simp only [puts, setAll, List.setIfInBounds_toArray, List.set_cons_zero, List.set_cons_succ]
   have HXX2 := HQ.out
   obtain ⟨hdo, hgb, hgl⟩ := HQ.out
   obtain ⟨ts2, st2, D, hmp2, hbv2, hR2, hD3⟩ := hdo.x
   have hAX := HRR.out.2.1
   have hnV : ∀ q, W.heap.size <= q -> ¬ V q := fun q hq hv => by have := (HKK.out.2.2.2.1 q hv).1; omega
   have brb := hbv2.box HXX.out.2.2.2 (by decide) (hnV rb HLO.out.2.2.2)
   have bmb := hbv2.box HXX.out.1 (by decide) (hnV mb HLO.out.1)
   have hVnot : ∀ k, VCf { f with st := f.st + 1, dp := f.dp + 1, na := .slice (some ⟨r8, 0, none⟩) (0 + 1) k8, ca := .slice (some ⟨r15, 0, none⟩) (0 + 1) k15 } k -> ¬ V k := fun k hk hv => (HVC.out k hk).elim (fun h9 => (HKK.out.2.2.2.1 k hv).2 h9) (fun h9 => hnV k h9 hv)
   have hn2 : wE.ownsRow A CTy 8 (.slice (some ⟨r8, 0, none⟩) (0 + 1) k8) (0 + 1) ([] ++ cL fo this args tgt) := own_blk HROW.out.1 (fun k hk => hbv2.kv k _ (by decide) (own_lab HROW.out.1 k hk) (hVnot k (.inl hk)))
   have hc2 : wE.ownsRow A VTy 3 (.slice (some ⟨r15, 0, none⟩) (0 + 1) k15) (0 + 1) ([] ++ vL fn) := own_blk HROW.out.2 (fun k hk => hbv2.kv k _ (by decide) (own_lab HROW.out.2 k hk) (hVnot k (.inr hk)))
   have e0 : wE.cell? ⟨mb, 0, none⟩ = some (.pointer (some ⟨m, 0, none⟩)) := bmb.at_ 0
   have c41 : wE.cell? ⟨m, 41, none⟩ = some (.bool false) := by have h9 : wE.cell? ⟨m, 41, none⟩ = some (.bool f.ov) := hmp2.mm.mb.at_ 41; rw [HKK.out.1] at h9; exact h9
   have d0 : wE.cell? ⟨gv, 0, none⟩ = some (.int .i64 x.1) := hgb.at_ 0
   have d1 : wE.cell? ⟨gv, 1, none⟩ = some (.int .i64 x.2.1) := hgb.at_ 1
   have d2 : wE.cell? ⟨gv, 2, none⟩ = some (.string x.2.2) := hgb.at_ 2
   have z0 : wE.cell? ⟨rb, 0, none⟩ = some (.int .i64 0) := brb.at_ 0
   have z1 : wE.cell? ⟨rb, 1, none⟩ = some (.int .i64 0) := brb.at_ 1
   have z2 : wE.cell? ⟨rb, 2, none⟩ = some (.string ⟨#[]⟩) := brb.at_ 2
   have q0 := brb.free 0
   have q1 := brb.free 1
   have q2 := brb.free 2
   have HE := Veil.mk (And.intro hmp2 (And.intro hbv2 (And.intro hR2 (And.intro hD3 (And.intro hn2 (And.intro hc2 (And.intro brb (And.intro bmb hVnot))))))))
   clear hdo hgb hgl hmp2 hbv2 hR2 hD3 hn2 hc2 brb bmb hVnot hAX hnV HXX2 HQ
   go_wp2
   obtain ⟨wF, hwF⟩ : ∃ wF, ((wE.setCell ⟨rb, 0, none⟩ (.int .i64 x.1)).setCell ⟨rb, 1, none⟩ (.int .i64 x.2.1)).setCell ⟨rb, 2, none⟩ (.string x.2.2) = wF := ⟨_, rfl⟩
   rw [hwF]
   have htF : Touch (fun k => k = rb) wE wF := by rw [<- hwF]; exact ((Touch.put (S := fun k => k = rb) rfl _ _).trans (Touch.put (S := fun k => k = rb) rfl _ _)).trans (Touch.put (S := fun k => k = rb) rfl _ _)
   obtain ⟨hmp2, hbv2, hR2, hD3, hn2, hc2, brb, bmb, hVnot⟩ := HE.out
   have brF : Box wF rb VTy #[.int .i64 x.1, .int .i64 x.2.1, .string x.2.2] := by rw [<- hwF]; exact ((brb.put 0 (.int .i64 x.1)).put 1 (.int .i64 x.2.1)).put 2 (.string x.2.2)
   have hmF := hmp2.touchV htF (fun k hk => ⟨VTy, by decide, by rw [hk]; exact brb.lab⟩)
   have hArb : A <= rb := Nat.le_trans HA.out HLO.out.2.2.2
   have hbF : Bv A (fun k => k = rb) wE wF := Bv.touch htF (Nat.le_of_lt hmp2.mm.alt) (fun k hk => by rw [hk]; exact hArb)
   have bmF : Box wF mb 25 #[.pointer (some ⟨m, 0, none⟩)] := hbF.box bmb (by decide) (fun e => bmb.lab.ne brb.lab (by decide) e)
   have hn8 := own_blk hn2 (fun k hk => htF.block k (hn2.lt k hk).2 (fun e => HNB.out (by rw [<- e]; exact .inl hk)))
   have hc15 := own_blk hc2 (fun k hk => htF.block k (hc2.lt k hk).2 (fun e => HNB.out (by rw [<- e]; exact .inr hk)))
   have hDrb : ∀ k, D k -> ¬ k = rb := fun k hk e => by
    have := HXX.out.2.2.2.lt
    rcases (hD3 k hk).2.2 with h9 | h9
    ·have := (HKK.out.2.2.2.1 k h9).1
     have := HLO.out.2.2.2
     omega
    ·omega
   have hDvc : ∀ k, D k -> ¬ VCf { f with st := f.st + 1, dp := f.dp + 1, na := .slice (some ⟨r8, 0, none⟩) (0 + 1) k8, ca := .slice (some ⟨r15, 0, none⟩) (0 + 1) k15 } k := fun k hk hv => by
    rcases (hD3 k hk).2.2 with h9 | h9
    ·exact hVnot k hv h9
    ·rcases hv with hv | hv
     ·have := (HROW.out.1.lt k hv).2
      omega
     ·have := (HROW.out.2.lt k hv).2
      omega
   have hRF := HRR.out.1 D ts2 st2 wE wF _ hR2 hbF hDrb
   refine leaves_cons (f := 93) (args := #[.pointer (some ⟨mb, 0, none⟩)]) (by simp) (by simp [go_sem]) ?_
   refine (MP.popD hmF rfl rfl hn8 hc15 bmF .returning).mono ?_
   rintro e u' w6 ⟨rfl, rfl, hm6, hr6, hb6⟩
   refine leaves_cons (f := 92) (args := #[.pointer (some ⟨m, 0, none⟩)]) (by simp [settle]) (by simp [go_sem]) ?_
   refine (hm6.endD (show 0 < f.dp + 1 by have := HKK.out.2.1; omega) (show f.dp + 1 <= 20 by have := HKK.out.2.2.1; omega) _).mono ?_
   rintro e u' w7 ⟨rfl, rfl, hm7, hb7⟩
   have br6 := hb6.box brF (by decide) HNB.out
   have br7 := hb7.boxE br6 (by decide)
   have y0 := br7.at_ 0
   have y1 := br7.at_ 1
   have y2 := br7.at_ 2
   have hef : ({ f with st := st2, na := .slice (some ⟨r8, 0, none⟩) 0 k8, ca := .slice (some ⟨r15, 0, none⟩) 0 k15, dp := f.dp + 1 - 1 } : MF) = { f with st := st2, na := .slice (some ⟨r8, 0, none⟩) 0 k8, ca := .slice (some ⟨r15, 0, none⟩) 0 k15 } := by rw [show f.dp + 1 - 1 = f.dp by omega]
   have hm8 : MP w7 h A m { f with st := st2, na := .slice (some ⟨r8, 0, none⟩) 0 k8, ca := .slice (some ⟨r15, 0, none⟩) 0 k15 } ts2 := by rw [<- hef]; exact hm7
   have hR7 := HRR.out.1 D ts2 st2 _ _ _ (HRR.out.1 D ts2 st2 _ _ _ hRF hb6 hDvc) (hb7.bv (fun _ => False)) (fun k _ h9 => h9)
   have hrs := hr6.bk hb7
   have hlt : wE.heap.size <= w7.heap.size := Nat.le_trans htF.size (Nat.le_trans hb6.bel.size hb7.bel.size)
   have hWX : W.heap.size <= WX.heap.size := HBX.out.bel.size
   refine ⟨(.tuple #[valV x, .int .i64 en]), by simp [results, Tryz.results52, go_sem, y0, y1, y2], rfl, ts2, st2, D, _, hm8, ⟨_, _, rfl⟩, ⟨hrs.na, hrs.ca⟩, fun k hk => HVC.out k hk, ?_, hR7, fun k hk => ⟨Nat.lt_of_lt_of_le (hD3 k hk).1 hlt, fun hv => hDvc k hk hv, (hD3 k hk).2.2.imp (fun h9 => h9) (fun h9 => Nat.le_trans hWX h9)⟩⟩
   exact ((((HBX.out.mono (fun k hk => Or.inr hk)).trans hbv2 (fun k hk => .inl (.inl hk))).trans hbF (fun k hk => .inr (by rw [hk]; exact HLO.out.2.2.2))).trans hb6 (fun k hk => (HVC.out k hk).imp (fun h9 => .inr h9) (fun h9 => h9))).trans (hb7.bv (fun _ => False)) (fun k hk => hk.elim)
end
end Go.Proofs.YtahkohfppakaiaaGreatDoor
namespace Go.Proofs.YtahkohfppakaiaaGreatDoor
open Go Go.RowKit
structure BW (W : World) where
 w : World
 h : Below W.heap.size W w
theorem BW.ne (W : World) : Nonempty (BW W) := ⟨⟨W, Below.refl _ _⟩⟩
theorem BW.ex {W w' : World} (h : Below W.heap.size W w') : ∃ z : BW W, w' = z.w := ⟨⟨w', h⟩, rfl⟩
theorem BW.on {W : World} {P : Program} {f : FuncId} {av : Array Value} {v : Value} (z : BW W) (h : Calls P f av z.w fun e w' => e = .returned v /\ Below z.w.heap.size z.w w') : Calls P f av z.w fun e w' => e = .returned v /\ ∃ z' : BW W, w' = z'.w :=
 h.mono fun _ _ ⟨he, hb⟩ => ⟨he, BW.ex (z.h.trans (hb.mono z.h.size))⟩
theorem wp_region_below {P : Program} {id : Nat} {Q : Exit -> Act -> World -> Prop} {a : Act} {w : World} {l : List Oper} (hm : P.follows .mixedOrders = true) (hB : Region.lexB .any l.toArray = true)
  (h : wpQuiet P l.toArray (fun w' => ∃ z : BW w, w' = z.w) (fun a' => ∀ w', (∃ z : BW w, w' = z.w) -> Q .normal a' w') l a) : (Code.region id l.toArray true).wp P Q a w :=
 wp_region_quiet (C := fun w' => ∃ z : BW w, w' = z.w) hm hB (BW.ex (Below.refl _ _).drew) (by simpa using h)
theorem cellAt {W w' : World} {p : Addr} {v : Value} (h : Below W.heap.size W w') (hc : W.cell? p = some v) : w'.cell? p = some v := (h.cell (World.block_lt_of_cell? _ _ hc)).trans hc
end Go.Proofs.YtahkohfppakaiaaGreatDoor
namespace Go.Proofs.YtahkohfppakaiaaGreatDoor
open Go Go.RowKit
attribute [local go_sem] Oper.semAt_some
theorem fn_assert (mk : Bool) (W : World) : (Instr.typeAssert (.iface 167 (.agg #[.bool mk])) 59 109 true).run Tryz.prog W = .ok (.tuple #[.pointer none, .bool false]) W := by cases mk <;> kernel_rfl
theorem object_w (W : World) (m h fo : Nat) (fv : Vt) (hm : W.cell? ⟨m, 0, none⟩ = some (.pointer (some ⟨h, 0, none⟩))) (hml : m < W.heap.size)
  (HOF : Veil (∀ W', Below W.heap.size W W' -> Calls Tryz.prog 14 #[.pointer (some ⟨h, 0, none⟩), valV fv] W' fun e w' => e = .returned (.pointer (some ⟨fo, 0, none⟩)) /\ Below W'.heap.size W' w')) :
  Calls Tryz.prog 81 #[.pointer (some ⟨m, 0, none⟩), valV fv] W fun e w' => e = .returned (.pointer (some ⟨fo, 0, none⟩)) /\ Below W.heap.size W w' := by
 obtain ⟨kb, hkb⟩ : ∃ kb, W.heap.size = kb := ⟨_, rfl⟩
 obtain ⟨W0, hW0⟩ : ∃ W0, (W.alloc (.cells #[.int .i64 fv.1, .int .i64 fv.2.1, .string fv.2.2] 28)) = W0 := ⟨_, rfl⟩
 have bb : Below W.heap.size W W0 := by rw [<- hW0]; exact ((Below.refl _ _).alloc (Nat.le_refl _) _)
 have xkb : Box W0 kb 28 #[.int .i64 fv.1, .int .i64 fv.2.1, .string fv.2.2] := by have h9 := Box.new W 28 #[.int .i64 fv.1, .int .i64 fv.2.1, .string fv.2.2]; rw [hW0, hkb] at h9; exact h9
 have HW0 := Veil.mk (And.intro hW0 (hkb))
 have HBB := Veil.mk (And.intro bb (xkb))
 have HLO : Veil (W.heap.size <= kb) := ⟨by omega⟩
 clear hW0 bb hkb xkb
 have HM := Veil.mk (And.intro hm hml)
 clear hm hml
 go_enter Tryz.func81, Tryz.ntmps81
 go_upto_region 1 with (fail)
 rw [HW0.out.1, HW0.out.2]
 go_upto_region 3 with (fail)
 obtain ⟨WD, hWD⟩ : ∃ WD, W0.drew = WD := ⟨_, rfl⟩
 have HBF : Veil (Below W.heap.size W WD) := ⟨by rw [<- hWD]; exact HBB.out.1.drew⟩
 have HXkb : Veil (Box WD kb 28 #[.int .i64 fv.1, .int .i64 fv.2.1, .string fv.2.2]) := ⟨by rw [<- hWD]; exact HBB.out.2.drew⟩
 have HWD := Veil.mk hWD
 clear hWD HBB
 have HC0 : Veil (WD.cell? ⟨m, 0, none⟩ = some (.pointer (some ⟨h, 0, none⟩))) := ⟨by rw [HBF.out.cell (p := ⟨m, 0, none⟩) HM.out.2]; exact HM.out.1⟩
 clear HM HW0
 have hDZ : ∀ z : BW W0, Below WD.heap.size WD z.w := fun z => by rw [<- HWD.out]; exact ⟨z.h.1, z.h.2, z.h.3, z.h.4, z.h.5⟩
 have c0_3 := fun z : BW W0 => cellAt (hDZ z) (HC0.out)
 have c0_4 : ∀ z : BW W0, z.w.cell? ⟨kb, 0, none⟩ = some (.int .i64 fv.1) := fun z => cellAt (hDZ z) (HXkb.out.at_ 0)
 have c1_4 : ∀ z : BW W0, z.w.cell? ⟨kb, 1, none⟩ = some (.int .i64 fv.2.1) := fun z => cellAt (hDZ z) (HXkb.out.at_ 1)
 have c2_4 : ∀ z : BW W0, z.w.cell? ⟨kb, 2, none⟩ = some (.string fv.2.2) := fun z => cellAt (hDZ z) (HXkb.out.at_ 2)
 have hNE := BW.ne W0
 refine wp_region_below (by kernel_rfl) (by kernel_rfl) ?_
 repeat (go_big_quiet_step ((go_at_call 14; exact BW.on _ (HOF.out _ (blw2 (HBF.out) (hDZ _))))))
 refine wpQuiet_nil ?_
 rintro _ ⟨z, rfl⟩
 have HQ := Veil.mk (hDZ z)
 obtain ⟨wE, hE2⟩ : ∃ wE, z.w = wE := ⟨_, rfl⟩
 rw [hE2] at HQ ⊢
 clear c0_3 c0_4 c1_4 c2_4 hDZ hE2 z hNE
 go_wp2
 go_ret
 exact ⟨rfl, HBF.out.trans (HQ.out.mono HBF.out.size)⟩
theorem callable_w (W : World) (m fo : Nat) (fv : Vt) (mk : Bool) (HC : Veil (∀ W', Below W.heap.size W W' -> W'.cell? ⟨fo, 0, none⟩ = some (.int .i64 2) /\ W'.cell? ⟨fo, 10, none⟩ = some (.iface 167 (.agg #[.bool mk]))))
  (HOB : Veil (∀ W', Below W.heap.size W W' -> Calls Tryz.prog 81 #[.pointer (some ⟨m, 0, none⟩), valV fv] W' fun e w' => e = .returned (.pointer (some ⟨fo, 0, none⟩)) /\ Below W'.heap.size W' w')) :
  Calls Tryz.prog 57 #[.pointer (some ⟨m, 0, none⟩), valV fv] W fun e w' => e = .returned (.bool true) /\ Below W.heap.size W w' := by
 obtain ⟨kb, hkb⟩ : ∃ kb, W.heap.size = kb := ⟨_, rfl⟩
 obtain ⟨W0, hW0⟩ : ∃ W0, (W.alloc (.cells #[.int .i64 fv.1, .int .i64 fv.2.1, .string fv.2.2] 28)) = W0 := ⟨_, rfl⟩
 have bb : Below W.heap.size W W0 := by rw [<- hW0]; exact ((Below.refl _ _).alloc (Nat.le_refl _) _)
 have xkb : Box W0 kb 28 #[.int .i64 fv.1, .int .i64 fv.2.1, .string fv.2.2] := by have h9 := Box.new W 28 #[.int .i64 fv.1, .int .i64 fv.2.1, .string fv.2.2]; rw [hW0, hkb] at h9; exact h9
 have HW0 := Veil.mk (And.intro hW0 (hkb))
 have HBB := Veil.mk (And.intro bb (xkb))
 have HLO : Veil (W.heap.size <= kb) := ⟨by omega⟩
 clear hW0 bb hkb xkb
 have HOB0 := Veil.mk (HOB.out W0 HBB.out.1)
 clear HOB
 go_enter Tryz.func57, Tryz.ntmps57
 go_upto_region 1 with (fail)
 rw [HW0.out.1, HW0.out.2]
 have c0 : W0.cell? ⟨kb, 0, none⟩ = some (.int .i64 fv.1) := HBB.out.2.at_ 0
 have c1 : W0.cell? ⟨kb, 1, none⟩ = some (.int .i64 fv.2.1) := HBB.out.2.at_ 1
 have c2 : W0.cell? ⟨kb, 2, none⟩ = some (.string fv.2.2) := HBB.out.2.at_ 2
 go_wp2_with (go_at_call 81; ((with_reducible refine HOB0.out.mono ?_); rintro e w1 ⟨rfl, hb1⟩; have HB1 := Veil.mk (HBB.out.1.trans (hb1.mono HBB.out.1.size)); clear hb1; have d0 : w1.cell? ⟨fo, 0, none⟩ = some (.int .i64 2) := (HC.out w1 HB1.out).1; have d1 : w1.cell? ⟨fo, 10, none⟩ = some (.iface 167 (.agg #[.bool mk])) := (HC.out w1 HB1.out).2))
 go_ret
 exact ⟨rfl, HB1.out⟩
structure CallP (W : World) (h A m : Nat) (f : MF) (V : Nat -> Prop) (R : (Nat -> Prop) -> List TO -> Int -> World -> Prop) (E : Nat -> Prop) (w : World) : Prop where
 x : ∃ ts2 st2 D f2, MP w h A m f2 ts2 /\ (∃ na ca, f2 = { f with st := st2, na := na, ca := ca }) /\ Rest w A f2 /\ (∀ k, VCf f2 k -> (VCf f k \/ W.heap.size <= k) /\ ¬ E k) /\ Bv A (fun k => V k \/ VCf f k) W w /\ R D ts2 st2 w /\ ∀ k, D k -> k < w.heap.size /\ ¬ VCf f2 k /\ ¬ E k /\ (V k \/ W.heap.size <= k)
section
variable {W w w' : World} {h A m : Nat} {f : MF} {V E : Nat -> Prop} {R : (Nat -> Prop) -> List TO -> Int -> World -> Prop} {ts : List TO}
theorem CallP.put (H : CallP W h A m f V R E w) (hR : RStay A R) {g : Nat} (hl : Lab w g VTy) (hg : E g) (hn : W.heap.size <= g) (hA : A <= W.heap.size) (i : Nat) (u : Value) : CallP W h A m f V R E (w.setCell ⟨g, i, none⟩ u) := by
 obtain ⟨ts2, st2, D, f2, h1, h2, h3, h4, h5, h6, h7⟩ := H.x
 have ht : Touch (fun k => k = g) w (w.setCell ⟨g, i, none⟩ u) := Touch.put (S := fun k => k = g) rfl _ _
 have hbv : Bv A (fun k => k = g) w (w.setCell ⟨g, i, none⟩ u) := Bv.touch ht (Nat.le_of_lt h1.mm.alt) (fun k hk => by omega)
 refine ⟨ts2, st2, D, f2, h1.putv hl i u, h2, h3.keep (fun k hk => ht.block k (h3.lt hk).2 (fun e => (h4 k hk).2 (by rw [e]; exact hg))), h4, h5.trans hbv (fun k hk => .inr (by omega)), hR D ts2 st2 _ _ _ h6 hbv (fun k hk h9 => (h7 k hk).2.2.1 (by rw [h9]; exact hg)), fun k hk => ⟨?_, (h7 k hk).2⟩⟩
 rw [show (w.setCell ⟨g, i, none⟩ u).heap.size = w.heap.size from by simp]
 exact (h7 k hk).1
theorem MP.call {t : TO} {p : Nat} (H : MP W h A m f ts) (hr : Rest W A f) (hov : f.ov = false) (hs0 : 0 <= f.st) (hs1 : f.st < 4194304) (hd0 : 0 <= f.dp) (hd1 : f.dp < 20) (hl : ts.length < 100000) (hp : ts[p]? = some t) (hcl : t.cl = 2) (mk : Bool) (hfn : t.fn = .iface 167 (.agg #[.bool mk])) (nid : Int) (hk : t.kd.k = nid) (this x : Vt) (en : Int) (args : Value) (a : Option Addr) (n c : Nat) (hag : args = .slice a n c) (hn : n <= 1000) (V : Nat -> Prop) (hV : ∀ k, V k -> k < W.heap.size /\ ¬ VCf f k) (R : (Nat -> Prop) -> List TO -> Int -> World -> Prop) (hR : RStay A R)
  (HDO : Veil (∀ W1 f1, MP W1 h A m f1 ts -> (∃ na ca, f1 = { f with st := f.st + 1, dp := f.dp + 1, na := na, ca := ca }) -> Bv A (VCf f) W W1 -> (∀ k, VCf f1 k -> VCf f k \/ W.heap.size <= k) -> Calls Tryz.prog 348 #[.pointer (some ⟨m, 0, none⟩), .int .i64 nid, callV t.b this args (0, 0, ⟨#[]⟩)] W1 fun e w' => e = .returned (.tuple #[valV x, .int .i64 en]) /\ DoP W1 h A m f1 V R (fun _ => False) w')) :
  Calls Tryz.prog 28 #[.pointer (some ⟨m, 0, none⟩), valV (9, (p : Int) + 1, ⟨#[]⟩), valV this, args] W fun e w' => e = .returned (.tuple #[valV x, .int .i64 en]) /\ CallP W h A m f V R (fun _ => False) w' := by
 obtain ⟨fv, hfv⟩ : ∃ fv : Vt, (9, (p : Int) + 1, ⟨#[]⟩) = fv := ⟨_, rfl⟩
 obtain ⟨fo, hfo⟩ : ∃ fo, t.b = fo := ⟨_, rfl⟩
 have h1 : (t.cl == 100) = false := by rw [hcl]; rfl
 have hm := List.mem_of_getElem? hp
 obtain ⟨kb, hkb⟩ : ∃ kb, W.heap.size = kb := ⟨_, rfl⟩
 obtain ⟨tb, htb⟩ : ∃ tb, kb + 1 = tb := ⟨_, rfl⟩
 obtain ⟨rb, hrb⟩ : ∃ rb, tb + 1 = rb := ⟨_, rfl⟩
 obtain ⟨W0, hW0⟩ : ∃ W0, (((W.alloc (.cells #[.int .i64 fv.1, .int .i64 fv.2.1, .string fv.2.2] 28)).alloc (.cells #[.int .i64 this.1, .int .i64 this.2.1, .string this.2.2] 28)).alloc (.cells #[.int .i64 0, .int .i64 0, .string ⟨#[]⟩] 28)) = W0 := ⟨_, rfl⟩
 have bb : Below W.heap.size W W0 := by rw [<- hW0]; exact ((((Below.refl _ _).alloc (Nat.le_refl _) _).alloc (by simp only [World.size_alloc]; omega) _).alloc (by simp only [World.size_alloc]; omega) _)
 have xkb : Box W0 kb 28 #[.int .i64 fv.1, .int .i64 fv.2.1, .string fv.2.2] := by have h9 := ((((Box.new W 28 #[.int .i64 fv.1, .int .i64 fv.2.1, .string fv.2.2]).more (.cells #[.int .i64 this.1, .int .i64 this.2.1, .string this.2.2] 28))).more (.cells #[.int .i64 0, .int .i64 0, .string ⟨#[]⟩] 28)); rw [hW0, hkb] at h9; exact h9
 have xtb : Box W0 tb 28 #[.int .i64 this.1, .int .i64 this.2.1, .string this.2.2] := by have h9 := ((Box.new (W.alloc (.cells #[.int .i64 fv.1, .int .i64 fv.2.1, .string fv.2.2] 28)) 28 #[.int .i64 this.1, .int .i64 this.2.1, .string this.2.2]).more (.cells #[.int .i64 0, .int .i64 0, .string ⟨#[]⟩] 28)); rw [hW0, show (W.alloc (.cells #[.int .i64 fv.1, .int .i64 fv.2.1, .string fv.2.2] 28)).heap.size = tb from by simp only [World.size_alloc]; omega] at h9; exact h9
 have xrb : Box W0 rb 28 #[.int .i64 0, .int .i64 0, .string ⟨#[]⟩] := by have h9 := Box.new ((W.alloc (.cells #[.int .i64 fv.1, .int .i64 fv.2.1, .string fv.2.2] 28)).alloc (.cells #[.int .i64 this.1, .int .i64 this.2.1, .string this.2.2] 28)) 28 #[.int .i64 0, .int .i64 0, .string ⟨#[]⟩]; rw [hW0, show ((W.alloc (.cells #[.int .i64 fv.1, .int .i64 fv.2.1, .string fv.2.2] 28)).alloc (.cells #[.int .i64 this.1, .int .i64 this.2.1, .string this.2.2] 28)).heap.size = rb from by simp only [World.size_alloc]; omega] at h9; exact h9
 have HW0 := Veil.mk (And.intro hW0 (And.intro hkb (And.intro htb (hrb))))
 have HBB := Veil.mk (And.intro bb (And.intro xkb (And.intro xtb (xrb))))
 have HLO : Veil (W.heap.size <= kb /\ W.heap.size <= tb /\ W.heap.size <= rb) := ⟨by omega⟩
 clear hW0 bb hkb xkb htb xtb hrb xrb
 have HON : Veil (∀ w9, Below W.heap.size W w9 -> MP w9 h A m f ts) := ⟨fun w9 hb => H.on hb⟩
 have HOF : Veil (∀ w9, Below W.heap.size W w9 -> Calls Tryz.prog 14 #[.pointer (some ⟨h, 0, none⟩), valV fv] w9 fun e w' => e = .returned (.pointer (some ⟨fo, 0, none⟩)) /\ Below w9.heap.size w9 w') := ⟨fun w9 hb => by rw [<- hfv, <- hfo]; exact (H.on hb).of_at hp h1 _⟩
 have HFC : Veil (∀ w9, Below W.heap.size W w9 -> w9.cell? ⟨fo, 0, none⟩ = some (.int .i64 2) /\ w9.cell? ⟨fo, 10, none⟩ = some (.iface 167 (.agg #[.bool mk]))) := ⟨fun w9 hb => by
  have hb9 := (H.on hb).mem_b hm h1
  rw [hfo] at hb9
  have e0 := hb9.at_ 0
  have e1 := hb9.at_ 10
  rw [show (objF t.cl t.proto t.kd.cs t.pv t.ev t.fn t.kd)[0]? = some (.int .i64 t.cl) from rfl, hcl] at e0
  rw [show (objF t.cl t.proto t.kd.cs t.pv t.ev t.fn t.kd)[10]? = some t.fn from rfl, hfn] at e1
  exact ⟨e0, e1⟩⟩
 have HCN : Veil (∀ w9, Below W.heap.size W w9 -> Calls Tryz.prog 52 #[.pointer (some ⟨m, 0, none⟩), valV fv, callV fo this args (0, 0, ⟨#[]⟩)] w9 fun e w' => e = .returned (.tuple #[valV x, .int .i64 en]) /\ CallP W h A m f V R (fun k => W.heap.size <= k /\ k < w9.heap.size) w' /\ ∀ g cs, W.heap.size <= g -> Box w9 g VTy cs -> Box w' g VTy cs) := ⟨fun w9 hb => by
  have hr9 := hr.keep (fun k hk => hb.block k (hr.lt hk).2)
  have hA := Nat.le_of_lt H.mm.alt
  have hbv9 := (Bk.of_below hA hb).bv (VCf f)
  have := (H.on hb).callNative hr9 hov hs0 hs1 hd0 hd1 hl hp h1 nid hk fv this (0, 0, ⟨#[]⟩) x en args a n c hag V (fun k hk => ⟨Nat.lt_of_lt_of_le (hV k hk).1 hb.size, (hV k hk).2⟩) R hR ⟨fun W1 f1 g1 g2 g3 g4 => HDO.out W1 f1 g1 g2 (hbv9.trans g3 (fun k hk => .inl hk)) (fun k hk => (g4 k hk).imp (fun h9 => h9) (fun h9 => Nat.le_trans hb.size h9))⟩
  rw [hfo] at this
  refine this.mono ?_
  rintro e w' ⟨he, ts2, st2, D, f2, q1, q2, q3, q4, q5, q6, q7⟩
  refine ⟨he, ⟨ts2, st2, D, f2, q1, q2, q3, fun k hk => ⟨(q4 k hk).imp (fun h9 => h9) (fun h9 => Nat.le_trans hb.size h9), fun h9 => ?_⟩, ((Bk.of_below hA hb).bv _).trans q5 (fun k hk => .inl hk), q6, fun k hk => ⟨(q7 k hk).1, (q7 k hk).2.1, fun h9 => ?_, (q7 k hk).2.2.imp (fun h9 => h9) (fun h9 => Nat.le_trans hb.size h9)⟩⟩, fun g cs hg hbx => q5.box hbx (by decide) (fun h9 => ?_)⟩
  ·rcases q4 k hk with h8 | h8
   ·have := (hr.lt h8).2
    omega
   ·omega
  ·rcases (q7 k hk).2.2 with h8 | h8
   ·have := (hV k h8).1
    omega
   ·omega
  ·rcases h9 with h8 | h8
   ·have := (hV g h8).1
    omega
   ·have := (hr.lt h8).2
    omega⟩
 have HRR := Veil.mk (And.intro hR (Nat.le_of_lt H.mm.alt))
 have HCM : Veil (∀ w9, Below W.heap.size W w9 -> w9.cell? ⟨m, 0, none⟩ = some (.pointer (some ⟨h, 0, none⟩)) /\ w9.cell? ⟨m, 41, none⟩ = some (.bool false)) := ⟨fun w9 hb => ⟨(H.on hb).mm.mb.at_ 0, by have h9 : w9.cell? ⟨m, 41, none⟩ = some (.bool f.ov) := (H.on hb).mm.mb.at_ 41; rw [hov] at h9; exact h9⟩⟩
 have HML : Veil (m < W.heap.size) := ⟨H.mm.mb.lt⟩
 have c41 : W0.cell? ⟨m, 41, none⟩ = some (.bool false) := (HCM.out W0 HBB.out.1).2
 rw [hfv]
 subst hag
 have hn1 : ¬ (1000 : Int) < (n : Int) := by omega
 clear HDO hR hV hk hfn hcl hp hl hd0 hd1 hs0 hs1 hov hr H hm h1 hfv hfo hn
 go_enter Tryz.func28, Tryz.ntmps28
 go_upto_region 1 with (fail)
 rw [HW0.out.1, HW0.out.2.1, HW0.out.2.2.1, HW0.out.2.2.2]
 go_upto_region 3 with (fail)
 obtain ⟨WD, hWD⟩ : ∃ WD, W0.drew = WD := ⟨_, rfl⟩
 have HBF : Veil (Below W.heap.size W WD) := ⟨by rw [<- hWD]; exact HBB.out.1.drew⟩
 have HXkb : Veil (Box WD kb 28 #[.int .i64 fv.1, .int .i64 fv.2.1, .string fv.2.2]) := ⟨by rw [<- hWD]; exact HBB.out.2.1.drew⟩
 have HXtb : Veil (Box WD tb 28 #[.int .i64 this.1, .int .i64 this.2.1, .string this.2.2]) := ⟨by rw [<- hWD]; exact HBB.out.2.2.1.drew⟩
 have HXrb : Veil (Box WD rb 28 #[.int .i64 0, .int .i64 0, .string ⟨#[]⟩]) := ⟨by rw [<- hWD]; exact HBB.out.2.2.2.drew⟩
 have HWD := Veil.mk hWD
 clear hWD HBB
 have HC0 : Veil (WD.cell? ⟨m, 0, none⟩ = some (.pointer (some ⟨h, 0, none⟩))) := ⟨(HCM.out WD HBF.out).1⟩
 clear HW0 c41
 have hDZ : ∀ z : BW W0, Below WD.heap.size WD z.w := fun z => by rw [<- HWD.out]; exact ⟨z.h.1, z.h.2, z.h.3, z.h.4, z.h.5⟩
 have c0_3 := fun z : BW W0 => cellAt (hDZ z) (HC0.out)
 have c0_4 : ∀ z : BW W0, z.w.cell? ⟨kb, 0, none⟩ = some (.int .i64 fv.1) := fun z => cellAt (hDZ z) (HXkb.out.at_ 0)
 have c1_4 : ∀ z : BW W0, z.w.cell? ⟨kb, 1, none⟩ = some (.int .i64 fv.2.1) := fun z => cellAt (hDZ z) (HXkb.out.at_ 1)
 have c2_4 : ∀ z : BW W0, z.w.cell? ⟨kb, 2, none⟩ = some (.string fv.2.2) := fun z => cellAt (hDZ z) (HXkb.out.at_ 2)
 have hNE := BW.ne W0
 refine wp_region_below (by kernel_rfl) (by kernel_rfl) ?_
 repeat (go_big_quiet_step ((go_at_call 14; exact BW.on _ (HOF.out _ (blw2 (HBF.out) (hDZ _))))))
 refine wpQuiet_nil ?_
 rintro _ ⟨z, rfl⟩
 have HQ := Veil.mk (hDZ z)
 obtain ⟨wE, hE2⟩ : ∃ wE, z.w = wE := ⟨_, rfl⟩
 rw [hE2] at HQ ⊢
 clear c0_3 c0_4 c1_4 c2_4 hDZ hE2 z hNE
 have HB5 := Veil.mk (HBF.out.trans (HQ.out.mono HBF.out.size))
 have b5 := HXkb.out.below HQ.out
 have t5 := HXtb.out.below HQ.out
 have r5 := HXrb.out.below HQ.out
 have k0 : wE.cell? ⟨kb, 0, none⟩ = some (.int .i64 fv.1) := b5.at_ 0
 have k1 : wE.cell? ⟨kb, 1, none⟩ = some (.int .i64 fv.2.1) := b5.at_ 1
 have k2 : wE.cell? ⟨kb, 2, none⟩ = some (.string fv.2.2) := b5.at_ 2
 have HCA := Veil.mk (callable_w wE m fo fv mk ⟨fun W' hb => HFC.out W' (HB5.out.trans (hb.mono HB5.out.size))⟩ ⟨fun W' hb => object_w W' m h fo fv (HCM.out W' (HB5.out.trans (hb.mono HB5.out.size))).1 (Nat.lt_of_lt_of_le HML.out (HB5.out.trans (hb.mono HB5.out.size)).size) ⟨fun W2 hb2 => HOF.out W2 (HB5.out.trans ((hb.trans (hb2.mono hb.size)).mono HB5.out.size))⟩⟩)
 have HX5 := Veil.mk (And.intro b5 (And.intro t5 r5))
 have hta := fn_assert mk
 clear b5 t5 r5 HXkb HXtb HXrb HOF HQ HC0 HWD
 go_upto_region 10 with (go_at_call 57; ((with_reducible refine HCA.out.mono ?_); rintro e w6 ⟨rfl, hb6⟩; have HB6 := Veil.mk (HB5.out.trans (hb6.mono HB5.out.size)); have HX6 := Veil.mk (And.intro (HX5.out.1.below hb6) (And.intro (HX5.out.2.1.below hb6) (HX5.out.2.2.below hb6))); clear hb6; have d10 : w6.cell? ⟨fo, 10, none⟩ = some (.iface 167 (.agg #[.bool mk])) := (HFC.out w6 HB6.out).2))
 have k0 : w6.cell? ⟨kb, 0, none⟩ = some (.int .i64 fv.1) := HX6.out.1.at_ 0
 have k1 : w6.cell? ⟨kb, 1, none⟩ = some (.int .i64 fv.2.1) := HX6.out.1.at_ 1
 have k2 : w6.cell? ⟨kb, 2, none⟩ = some (.string fv.2.2) := HX6.out.1.at_ 2
 have t0 : w6.cell? ⟨tb, 0, none⟩ = some (.int .i64 this.1) := HX6.out.2.1.at_ 0
 have t1 : w6.cell? ⟨tb, 1, none⟩ = some (.int .i64 this.2.1) := HX6.out.2.1.at_ 1
 have t2 : w6.cell? ⟨tb, 2, none⟩ = some (.string this.2.2) := HX6.out.2.1.at_ 2
 have HCC := Veil.mk (HCN.out w6 HB6.out)
 clear hta HCA d10 HCN
 go_wp2_with (go_at_call 52; ((with_reducible refine HCC.out.mono ?_); rintro e w7 ⟨rfl, hcp, hkp⟩; have HC7 := Veil.mk hcp; have HR7 := Veil.mk (hkp rb _ HLO.out.2.2 HX6.out.2.2); clear hcp hkp; have z0 : w7.cell? ⟨rb, 0, none⟩ = some (.int .i64 0) := HR7.out.at_ 0; have z1 : w7.cell? ⟨rb, 1, none⟩ = some (.int .i64 0) := HR7.out.at_ 1; have z2 : w7.cell? ⟨rb, 2, none⟩ = some (.string ⟨#[]⟩) := HR7.out.at_ 2; have q0 := HR7.out.free 0; have q1 := HR7.out.free 1; have q2 := HR7.out.free 2))
 have hr3 := ((HR7.out.put 0 (.int .i64 x.1)).put 1 (.int .i64 x.2.1)).put 2 (.string x.2.2)
 have y0 := hr3.at_ 0
 have y1 := hr3.at_ 1
 have y2 := hr3.at_ 2
 have hE : (fun k => W.heap.size <= k /\ k < w6.heap.size) rb := ⟨HLO.out.2.2, HX6.out.2.2.lt⟩
 have hA := Nat.le_trans HRR.out.2 (Nat.le_refl _)
 have hp3 := ((HC7.out.put HRR.out.1 HR7.out.lab hE HLO.out.2.2 hA 0 (.int .i64 x.1)).put HRR.out.1 (HR7.out.put 0 _).lab hE HLO.out.2.2 hA 1 (.int .i64 x.2.1)).put HRR.out.1 ((HR7.out.put 0 _).put 1 _).lab hE HLO.out.2.2 hA 2 (.string x.2.2)
 obtain ⟨ts2, st2, D, f2, g1, g2, g3, g4, g5, g6, g7⟩ := hp3.x
 exact bodyPost_ret (v := (.tuple #[valV x, .int .i64 en])) (by simp [results, Tryz.results28, go_sem, y0, y1, y2]) rfl ⟨rfl, ⟨ts2, st2, D, f2, g1, g2, g3, fun k hk => ⟨(g4 k hk).1, fun h9 => h9⟩, g5, g6, fun k hk => ⟨(g7 k hk).1, (g7 k hk).2.1, fun h9 => h9, (g7 k hk).2.2.2⟩⟩⟩
end
end Go.Proofs.YtahkohfppakaiaaGreatDoor
