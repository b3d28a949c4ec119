/- Package heap: Define of an object that is no array, whose properties have every flag. -/
import Derived.Test.YtgdkjkfbknbgkaaGreatDoorHc
namespace Go.Proofs.YtgdkjkfbknbgkaaGreatDoor
open Go Go.RowKit

theorem len8 {α : Type} {us : List α} (h : us.length = 8) : ∃ a0 a1 a2 a3 a4 a5 a6 a7, us = [a0, a1, a2, a3, a4, a5, a6, a7] := by
  match us, h with
  | [a0, a1, a2, a3, a4, a5, a6, a7], _ => exact ⟨a0, a1, a2, a3, a4, a5, a6, a7, rfl⟩
theorem touch_new {S F1 : Nat → Prop} {w W w9 : World} (h : Touch S w W) (h2 : Touch F1 W w9) (hf : ∀ b, F1 b → S b ∨ w.heap.size ≤ b) : Touch S w w9 :=
  ⟨h2.os.trans h.os, h2.tape.trans h.tape, h2.output.trans h.output, Nat.le_trans h.size h2.size, fun b hb hn => (h2.block b (by have := h.size; omega) (fun hF => (hf b hF).elim hn (fun h => by omega))).trans (h.block b hb hn)⟩
def DfSt (B t : Nat) (F1 : Nat → Prop) (O : Ob) (WD : World) : Nat → (Nat → Value) → World → Prop
  | 0 => fun _ w => w = WD
  | _ => fun _ w => ∃ F9, Tf B t F9 O w ∧ Fs F1 F9 WD w
theorem lookO_all {O : List En} {k : Vt} (h : ∀ x ∈ O, x.2.2 = 7) : (∃ v0, lookO O k = (v0, 7, true)) ∨ ∃ v0, lookO O k = (v0, 0, false) := by
  unfold lookO
  cases hf : O.find? (fun x => decide (x.1 = k)) with
  | none => exact .inr ⟨_, rfl⟩
  | some y =>
    have := h y (List.mem_of_find?_eq_some hf)
    exact .inl ⟨y.2.1, by show (y.2.1, y.2.2, true) = _; rw [this]⟩
theorem lookO_nil (k : Vt) : lookO [] k = ((0, 0, ⟨#[]⟩), 0, false) := rfl
set_option maxHeartbeats 2000000 in
set_option maxRecDepth 100000 in
theorem define_nil {w : World} {B o : Nat} {cl proto : Int} {ev fn : Value} {kd : Int}  (hb : Box w o 99 (objF cl proto false (.pointer none) ev fn kd)) (hc : (cl == 1) = false) (hB : B ≤ w.heap.size) (fl : Int) (k v : Vt) (hk : k.2.2.size ≤ 1000) :
    Calls Tryz.prog 34 #[.pointer (some ⟨o, 0, none⟩), valV k, valV v, .int .i64 fl] w fun e w' => e = .returned (.bool true) ∧ ∃ pv' F', Box w' o 99 (objF cl proto false pv' ev fn kd) ∧ PrAt B w' pv' F' (putO ([], []) (keyT k) v fl).1 ∧ Touch (fun b => b = o ∨ False) w w' ∧ ∀ b, F' b → False ∨ w.heap.size ≤ b := by
  have hlt := hb.lt
  obtain ⟨O, hO⟩ : ∃ O : List En, O = [] := ⟨_, rfl⟩
  obtain ⟨F, hF⟩ : ∃ F : Nat → Prop, F = fun _ => False := ⟨_, rfl⟩
  have hp : PrAt B w (.pointer none) F O := .inl ⟨rfl, hO, hF⟩
  have hn : O.length < 40000 := by rw [hO]; decide
  have HLK : ∃ v0, lookO O (keyT k) = (v0, 0, false) := ⟨_, by rw [hO]; rfl⟩
  have HON0 := Veil.mk hO
  have HBL := Veil.mk hB
  suffices hsf : Calls Tryz.prog 34 #[.pointer (some ⟨o, 0, none⟩), valV k, valV v, .int .i64 fl] w fun e w' => e = .returned (.bool true) ∧ ∃ pv' F', Box w' o 99 (objF cl proto false pv' ev fn kd) ∧ PrAt B w' pv' F' (putO (O, []) (keyT k) v fl).1 ∧ Touch (fun b => b = o ∨ F b) w w' ∧ ∀ b, F' b → F b ∨ w.heap.size ≤ b by
    rw [hO, hF] at hsf
    exact hsf
  have HFF : Veil (∀ b, F b → False) := ⟨fun b hb => by rw [hF] at hb; exact hb⟩
  have HOW : Veil (∀ W, Below w.heap.size w W → Calls Tryz.prog 49 #[.pointer (some ⟨o, 0, none⟩), valV k] W fun e w' => e = .returned (.tuple #[valV (lookO O (keyT k)).1, .int .i64 (lookO O (keyT k)).2.1, .bool (lookO O (keyT k)).2.2]) ∧ Below W.heap.size W w') := ⟨fun W hbw => own_plain (hb.below hbw) hc (hp.on hbw) k hk⟩
  have HIL : Veil (∀ W, Below w.heap.size w W → Calls Tryz.prog 71 #[.pointer (some ⟨o, 0, none⟩), valV k] W fun e w' => e = .returned (.bool false) ∧ Below W.heap.size W w') := ⟨fun W hbw => isLen_plain (hb.below hbw) hc k⟩
  have HEL : Veil (∀ W, Below w.heap.size w W → Calls Tryz.prog 50 #[.pointer (some ⟨o, 0, none⟩), valV k] W fun e w' => e = .returned (.int .i64 (-1)) ∧ Below W.heap.size W w') := ⟨fun W hbw => elem_plain (hb.below hbw) hc k⟩
  obtain ⟨kb, hkb⟩ : ∃ kb, w.heap.size = kb := ⟨_, rfl⟩
  obtain ⟨vb, hvb⟩ : ∃ vb, kb + 1 = vb := ⟨_, rfl⟩
  have b1 := (Box.new w 30 #[.int .i64 k.1, .int .i64 k.2.1, .string k.2.2]).more (.cells #[.int .i64 v.1, .int .i64 v.2.1, .string v.2.2] 30)
  have b2 := Box.new (w.alloc (.cells #[.int .i64 k.1, .int .i64 k.2.1, .string k.2.2] 30)) 30 #[.int .i64 v.1, .int .i64 v.2.1, .string v.2.2]
  have bb : Below w.heap.size w ((w.alloc (.cells #[.int .i64 k.1, .int .i64 k.2.1, .string k.2.2] 30)).alloc (.cells #[.int .i64 v.1, .int .i64 v.2.1, .string v.2.2] 30)) := ((Below.refl _ _).alloc (Nat.le_refl _) _).alloc (by simp) _
  rw [World.size_alloc] at b2
  obtain ⟨W0, hW0⟩ : ∃ W0, ((w.alloc (.cells #[.int .i64 k.1, .int .i64 k.2.1, .string k.2.2] 30)).alloc (.cells #[.int .i64 v.1, .int .i64 v.2.1, .string v.2.2] 30)) = W0 := ⟨_, rfl⟩
  rw [hW0] at b1 b2 bb
  have HW0 := Veil.mk (And.intro hW0 (And.intro hkb hvb))
  have HBO := Veil.mk (And.intro hb bb)
  have HON := Veil.mk (show (O, ([] : List (Nat × List En))).1.length < 40000 from hn)
  have HKS := Veil.mk hk
  have HKL := Veil.mk (show w.heap.size ≤ kb ∧ w.heap.size ≤ vb by omega)
  rw [hkb] at b1 b2
  rw [hvb] at b2
  have HB12 := Veil.mk (And.intro b1 b2)
  have x0 : W0.cell? ⟨kb, 0, none⟩ = some (.int .i64 k.1) := b1.at_ 0
  have x1 : W0.cell? ⟨kb, 1, none⟩ = some (.int .i64 k.2.1) := b1.at_ 1
  have x2 : W0.cell? ⟨kb, 2, none⟩ = some (.string k.2.2) := b1.at_ 2
  clear hb hp hO hF hB b1 b2 bb hW0 hkb hvb hlt hn
  go_enter Tryz.func34, Tryz.ntmps34
  go_upto_region 1 with (fail)
  rw [HW0.out.1, HW0.out.2.1, HW0.out.2.2]
  clear HW0
  obtain ⟨v0, hl⟩ : ∃ v0, lookO O (keyT k) = (v0, 0, false) := HLK
  have HOW1 : Veil (∀ W, Below w.heap.size w W → Calls Tryz.prog 49 #[.pointer (some ⟨o, 0, none⟩), valV k] W fun e w' => e = .returned (.tuple #[valV v0, .int .i64 0, .bool false]) ∧ Below W.heap.size W w') := ⟨fun W hb => (HOW.out W hb).mono fun e w' h => ⟨by have := h.1; rw [hl] at this; exact this, h.2⟩⟩
  clear hl
  go_upto_region 4 with (go_at_call 49; ((with_reducible refine (HOW1.out _ HBO.out.2).mono ?_); rintro e w1 ⟨rfl, hb1⟩))
  have hal : Below w1.heap.size w1 (w1.alloc (.cells #[.int .i64 v0.1, .int .i64 v0.2.1, .string v0.2.2] 30)) := (Below.refl _ _).alloc (Nat.le_refl _) _
  obtain ⟨W2, hW2⟩ : ∃ W2, w1.alloc (.cells #[.int .i64 v0.1, .int .i64 v0.2.1, .string v0.2.2] 30) = W2 := ⟨_, rfl⟩
  rw [hW2] at hal ⊢
  have HB2 : Veil (Below w.heap.size w W2) := ⟨blw2 (blw2 HBO.out.2 hb1) hal⟩
  have q1 := (HB12.out.1.on hb1 HB12.out.1.lt).below hal
  have q2 := (HB12.out.2.on hb1 HB12.out.2.lt).below hal
  have HB22 := Veil.mk (And.intro q1 q2)
  clear x0 x1 x2 hb1 hal hW2
  have x0 : W2.cell? ⟨kb, 0, none⟩ = some (.int .i64 k.1) := q1.at_ 0
  have x1 : W2.cell? ⟨kb, 1, none⟩ = some (.int .i64 k.2.1) := q1.at_ 1
  have x2 : W2.cell? ⟨kb, 2, none⟩ = some (.string k.2.2) := q1.at_ 2
  have o2 : W2.cell? ⟨o, 2, none⟩ = some (.bool false) := (HBO.out.1.below HB2.out).at_ 2
  clear q1 q2
  go_upto_region 10 with (go_at_call 71; ((with_reducible refine (HIL.out _ HB2.out).mono ?_); rintro e w3 ⟨rfl, hb3⟩))
  clear x0 x1 x2 o2
  have HB3 : Veil (Below w.heap.size w w3) := ⟨blw2 HB2.out hb3⟩
  have q1 := HB22.out.1.below hb3
  have q2 := HB22.out.2.below hb3
  have HB33 := Veil.mk (And.intro q1 q2)
  have x0 : w3.cell? ⟨kb, 0, none⟩ = some (.int .i64 k.1) := q1.at_ 0
  have x1 : w3.cell? ⟨kb, 1, none⟩ = some (.int .i64 k.2.1) := q1.at_ 1
  have x2 : w3.cell? ⟨kb, 2, none⟩ = some (.string k.2.2) := q1.at_ 2
  clear q1 q2 hb3
  go_upto_region 13 with (go_at_call 50; ((with_reducible refine (HEL.out _ HB3.out).mono ?_); rintro e w4 ⟨rfl, hb4⟩))
  clear x0 x1 x2
  have HB4 : Veil (Below w.heap.size w w4) := ⟨blw2 HB3.out hb4⟩
  have q1 := HB33.out.1.below hb4
  have q2 := HB33.out.2.below hb4
  have HB44 := Veil.mk (And.intro q1 q2)
  have o3 : w4.cell? ⟨o, 3, none⟩ = some (.pointer none) := (HBO.out.1.below HB4.out).at_ 3
  clear q1 q2 hb4 HB2 HB22 HB3 HB33 HOW HIL HEL HOW1
  have HNT := Veil.mk (new_tf (B := B) (w := w4) (by have := HB4.out.size; have := HBL.out; omega))
  have hnn : ¬ o = w4.heap.size := by have := HBO.out.1.lt; have := HB4.out.size; omega
  have o3f := (HBO.out.1.below HB4.out).free 3
  have KEE : Veil (∀ w5, Below w4.heap.size w4 w5 → w5.cell? ⟨o, 3, none⟩ = some (.pointer none) ∧ w5.frozen? ⟨o, 3, none⟩ = false) := ⟨fun w5 hb => ⟨((HBO.out.1.below HB4.out).below hb).at_ 3, ((HBO.out.1.below HB4.out).below hb).free 3⟩⟩
  go_upto_region 15 with (go_at_call 74; ((with_reducible refine HNT.out.mono ?_); rintro e w5 ⟨rfl, hT5, hb5⟩; obtain ⟨y0, y1⟩ := KEE.out _ hb5; have HT5 := Veil.mk (And.intro hT5 hb5); clear hT5 hb5))
  obtain ⟨hT5, hb5⟩ := HT5.out
  obtain ⟨t, ht⟩ : ∃ t, w4.heap.size = t := ⟨_, rfl⟩
  have tp := Touch.put (S := fun b => b = o) (w := w5) rfl 3 (.pointer (some ⟨w4.heap.size, 0, none⟩))
  have hbo5 := (HBO.out.1.below HB4.out).below hb5
  have hT6 := hT5.touch tp (fun b hb e => by rw [hb] at e; exact hnn e.symm)
  have hbo6 := hbo5.put 3 (.pointer (some ⟨w4.heap.size, 0, none⟩))
  have k6 := (HB44.out.1.below hb5).touch tp (fun e => by have h1 := HBO.out.1.lt; have h2 := HKL.out.1; omega)
  have v6 := (HB44.out.2.below hb5).touch tp (fun e => by have h1 := HBO.out.1.lt; have h2 := HKL.out.2; omega)
  have tt : Touch (fun b => b = o ∨ F b) w (w5.setCell ⟨o, 3, none⟩ (.pointer (some ⟨w4.heap.size, 0, none⟩))) := (Touch.of_below (blw2 HB4.out hb5)).trans (tp.mono (fun b hb => .inl hb))
  obtain ⟨WC, hWC⟩ : ∃ WC, w5.setCell ⟨o, 3, none⟩ (.pointer (some ⟨w4.heap.size, 0, none⟩)) = WC := ⟨_, rfl⟩
  rw [hWC] at hT6 hbo6 k6 v6 tt ⊢
  rw [ht] at hT6 hbo6 ⊢
  obtain ⟨F1, hF1⟩ : ∃ F1 : Nat → Prop, F1 = fun b => b = t := ⟨_, rfl⟩
  have HQ : Veil (Box WC o 99 (objF cl proto false (.pointer (some ⟨t, 0, none⟩)) ev fn kd) ∧ Tf B t F1 (O, []) WC ∧ Box WC kb 30 #[.int .i64 k.1, .int .i64 k.2.1, .string k.2.2] ∧ Box WC vb 30 #[.int .i64 v.1, .int .i64 v.2.1, .string v.2.2] ∧ Touch (fun b => b = o ∨ F b) w WC ∧ ∀ b, F1 b → F b ∨ w.heap.size ≤ b) := ⟨hbo6, by rw [hF1, HON0.out]; exact hT6, k6, v6, tt, fun b hb => .inr (by rw [hF1] at hb; have := HB4.out.size; rw [show b = t from hb, ← ht]; exact this)⟩
  clear hT5 hb5 ht tp hbo5 hT6 hbo6 k6 v6 tt hWC hF1 o3 o3f y0 y1 KEE HNT HT5
  obtain ⟨WD, hWD⟩ : ∃ WD, WC.drew = WD := ⟨_, rfl⟩
  have HOB : Veil (Box WD o 99 (objF cl proto false (.pointer (some ⟨t, 0, none⟩)) ev fn kd)) := ⟨by rw [← hWD]; exact HQ.out.1.drew⟩
  have HTF : Veil (Tf B t F1 (O, []) WD) := ⟨by rw [← hWD]; exact HQ.out.2.1.on (Below.refl _ _).drew⟩
  have HKB : Veil (Box WD kb 30 #[.int .i64 k.1, .int .i64 k.2.1, .string k.2.2]) := ⟨by rw [← hWD]; exact HQ.out.2.2.1.drew⟩
  have HVB : Veil (Box WD vb 30 #[.int .i64 v.1, .int .i64 v.2.1, .string v.2.2]) := ⟨by rw [← hWD]; exact HQ.out.2.2.2.1.drew⟩
  have HTC : Veil (Touch (fun b => b = o ∨ F b) w WD ∧ ∀ b, F1 b → F b ∨ w.heap.size ≤ b) := ⟨by rw [← hWD]; exact HQ.out.2.2.2.2.1.trans (Touch.of_below (Below.refl _ _).drew), HQ.out.2.2.2.2.2⟩
  have HPU := Veil.mk (put_tf HTF.out HON.out (by simp) k v fl HKS.out)
  have HWD := Veil.mk hWD
  clear hWD HQ
  refine wp_region_chain ([some (· = .pointer (some ⟨o, 0, none⟩)), some (· = .pointer (some ⟨o, 0, none⟩)), some (· = .pointer (some ⟨o, 3, none⟩)), some (· = .pointer (some ⟨t, 0, none⟩)), some (· = valV k), some (· = valV v), some (· = .int .i64 fl), none] : List (Option (Value → Prop))) (LPh [7] (DfSt B t F1 (putO (O, []) (keyT k) v fl) WD)) [some 77, some 78, some 79, some 80, some 81, some 82, some 83, some 84] (curV' _ [some 77, some 78, some 79, some 80, some 81, some 82, some 83, some 84]) (by kernel_rfl) rfl rfl (puts_cur _ _) (LPh.start (show WC.drew = WD from HWD.out)) ?_ (by kernel_rfl) ?_
  · refine Steps.cons rfl (fun bb aa w' hbs hb0 hbp hI K hK => ?_) ?_
    · obtain ⟨us, hus, ha, hI⟩ := hI
      obtain ⟨u0, u1, u2, u3, u4, u5, u6, u7, rfl⟩ := len8 hus
      have HI := Veil.mk hI
      clear hI
      rw [ha]
      simp only [puts, setAll, List.setIfInBounds_toArray, List.set_cons_zero, List.set_cons_succ]
      go_simp
      exact hK _ _ (chain_step HI.out hus hbs 0 _ (by show 0 < 8; decide) rfl hbp (val_of rfl rfl) (HI.out.ph.step 0 _ (by decide) (by decide)) (by simp only [puts, setAll, List.set_cons_zero, List.set_cons_succ, List.setIfInBounds_toArray]))
    refine Steps.cons rfl (fun bb aa w' hbs hb0 hbp hI K hK => ?_) ?_
    · obtain ⟨us, hus, ha, hI⟩ := hI
      obtain ⟨u0, u1, u2, u3, u4, u5, u6, u7, rfl⟩ := len8 hus
      have e0 : u0 = .pointer (some ⟨o, 0, none⟩) := hI.val 0 _ rfl (gen_after 0 (by kernel_rfl) hbp)
      subst e0
      have HI := Veil.mk hI
      clear hI
      rw [ha]
      simp only [puts, setAll, List.setIfInBounds_toArray, List.set_cons_zero, List.set_cons_succ]
      go_simp
      exact hK _ _ (chain_step HI.out hus hbs 1 _ (by show 1 < 8; decide) rfl hbp (val_of rfl rfl) (HI.out.ph.step 1 _ (by decide) (by decide)) (by simp only [puts, setAll, List.set_cons_zero, List.set_cons_succ, List.setIfInBounds_toArray]))
    refine Steps.cons rfl (fun bb aa w' hbs hb0 hbp hI K hK => ?_) ?_
    · obtain ⟨us, hus, ha, hI⟩ := hI
      obtain ⟨u0, u1, u2, u3, u4, u5, u6, u7, rfl⟩ := len8 hus
      have e1 : u1 = .pointer (some ⟨o, 0, none⟩) := hI.val 1 _ rfl (gen_after 1 (by kernel_rfl) hbp)
      subst e1
      have HI := Veil.mk hI
      clear hI
      rw [ha]
      simp only [puts, setAll, List.setIfInBounds_toArray, List.set_cons_zero, List.set_cons_succ]
      go_simp
      exact hK _ _ (chain_step HI.out hus hbs 2 _ (by show 2 < 8; decide) rfl hbp (val_of rfl rfl) (HI.out.ph.step 2 _ (by decide) (by decide)) (by simp only [puts, setAll, List.set_cons_zero, List.set_cons_succ, List.setIfInBounds_toArray]))
    refine Steps.cons rfl (fun bb aa w' hbs hb0 hbp hI K hK => ?_) ?_
    · obtain ⟨us, hus, ha, hI⟩ := hI
      obtain ⟨u0, u1, u2, u3, u4, u5, u6, u7, rfl⟩ := len8 hus
      have e2 : u2 = .pointer (some ⟨o, 3, none⟩) := hI.val 2 _ rfl (gen_after 2 (by kernel_rfl) hbp)
      subst e2
      have h7 := hI.before 7 3 rfl (by kernel_rfl) hb0
      have hst := hI.ph.at_ 0 7 rfl h7 (.inl rfl)
      clear h7
      have c0 : w'.cell? ⟨o, 3, none⟩ = some (.pointer (some ⟨t, 0, none⟩)) := by rw [show w' = WD from hst]; exact HOB.out.at_ 3
      have HI := Veil.mk hI
      clear hI
      rw [ha]
      simp only [puts, setAll, List.setIfInBounds_toArray, List.set_cons_zero, List.set_cons_succ]
      go_simp
      exact hK _ _ (chain_step HI.out hus hbs 3 _ (by show 3 < 8; decide) rfl hbp (val_of rfl rfl) (HI.out.ph.step 3 _ (by decide) (by decide)) (by simp only [puts, setAll, List.set_cons_zero, List.set_cons_succ, List.setIfInBounds_toArray]))
    refine Steps.cons rfl (fun bb aa w' hbs hb0 hbp hI K hK => ?_) ?_
    · obtain ⟨us, hus, ha, hI⟩ := hI
      obtain ⟨u0, u1, u2, u3, u4, u5, u6, u7, rfl⟩ := len8 hus
      have h7 := hI.before 7 4 rfl (by kernel_rfl) hb0
      have hst := hI.ph.at_ 0 7 rfl h7 (.inl rfl)
      clear h7
      have HKW : Box w' kb 30 #[.int .i64 k.1, .int .i64 k.2.1, .string k.2.2] := by rw [show w' = WD from hst]; exact HKB.out
      have c0 : w'.cell? ⟨kb, 0, none⟩ = some (.int .i64 k.1) := HKW.at_ 0
      have c1 : w'.cell? ⟨kb, 1, none⟩ = some (.int .i64 k.2.1) := HKW.at_ 1
      have c2 : w'.cell? ⟨kb, 2, none⟩ = some (.string k.2.2) := HKW.at_ 2
      clear HKW
      have HI := Veil.mk hI
      clear hI
      rw [ha]
      simp only [puts, setAll, List.setIfInBounds_toArray, List.set_cons_zero, List.set_cons_succ]
      go_simp
      exact hK _ _ (chain_step HI.out hus hbs 4 _ (by show 4 < 8; decide) rfl hbp (val_of rfl rfl) (HI.out.ph.step 4 _ (by decide) (by decide)) (by simp only [puts, setAll, List.set_cons_zero, List.set_cons_succ, List.setIfInBounds_toArray]))
    refine Steps.cons rfl (fun bb aa w' hbs hb0 hbp hI K hK => ?_) ?_
    · obtain ⟨us, hus, ha, hI⟩ := hI
      obtain ⟨u0, u1, u2, u3, u4, u5, u6, u7, rfl⟩ := len8 hus
      have h7 := hI.before 7 5 rfl (by kernel_rfl) hb0
      have hst := hI.ph.at_ 0 7 rfl h7 (.inl rfl)
      clear h7
      have HKW : Box w' vb 30 #[.int .i64 v.1, .int .i64 v.2.1, .string v.2.2] := by rw [show w' = WD from hst]; exact HVB.out
      have c0 : w'.cell? ⟨vb, 0, none⟩ = some (.int .i64 v.1) := HKW.at_ 0
      have c1 : w'.cell? ⟨vb, 1, none⟩ = some (.int .i64 v.2.1) := HKW.at_ 1
      have c2 : w'.cell? ⟨vb, 2, none⟩ = some (.string v.2.2) := HKW.at_ 2
      clear HKW
      have HI := Veil.mk hI
      clear hI
      rw [ha]
      simp only [puts, setAll, List.setIfInBounds_toArray, List.set_cons_zero, List.set_cons_succ]
      go_simp
      exact hK _ _ (chain_step HI.out hus hbs 5 _ (by show 5 < 8; decide) rfl hbp (val_of rfl rfl) (HI.out.ph.step 5 _ (by decide) (by decide)) (by simp only [puts, setAll, List.set_cons_zero, List.set_cons_succ, List.setIfInBounds_toArray]))
    refine Steps.cons rfl (fun bb aa w' hbs hb0 hbp hI K hK => ?_) ?_
    · obtain ⟨us, hus, ha, hI⟩ := hI
      obtain ⟨u0, u1, u2, u3, u4, u5, u6, u7, rfl⟩ := len8 hus
      have HI := Veil.mk hI
      clear hI
      rw [ha]
      simp only [puts, setAll, List.setIfInBounds_toArray, List.set_cons_zero, List.set_cons_succ]
      go_simp
      exact hK _ _ (chain_step HI.out hus hbs 6 _ (by show 6 < 8; decide) rfl hbp (val_of rfl rfl) (HI.out.ph.step 6 _ (by decide) (by decide)) (by simp only [puts, setAll, List.set_cons_zero, List.set_cons_succ, List.setIfInBounds_toArray]))
    refine Steps.cons rfl (fun bb aa w' hbs hb0 hbp hI K hK => ?_) ?_
    · obtain ⟨us, hus, ha, hI⟩ := hI
      obtain ⟨u0, u1, u2, u3, u4, u5, u6, u7, rfl⟩ := len8 hus
      have e3 : u3 = .pointer (some ⟨t, 0, none⟩) := hI.val 3 _ rfl (gen_after 3 (by kernel_rfl) hbp)
      subst e3
      have e4 : u4 = valV k := hI.val 4 _ rfl (gen_after 4 (by kernel_rfl) hbp)
      subst e4
      have e5 : u5 = valV v := hI.val 5 _ rfl (gen_after 5 (by kernel_rfl) hbp)
      subst e5
      have e6 : u6 = .int .i64 fl := hI.val 6 _ rfl (gen_after 6 (by kernel_rfl) hbp)
      subst e6
      have hst := hI.ph.at_ 0 7 rfl hb0 (.inl rfl)
      have HP2 := HPU.out
      rw [← show w' = WD from hst] at HP2
      have HP3 := Veil.mk HP2
      have HST := Veil.mk (show w' = WD from hst)
      clear HP2
      have HI := Veil.mk hI
      clear hI
      rw [ha]
      simp only [puts, setAll, List.setIfInBounds_toArray, List.set_cons_zero, List.set_cons_succ]
      go_simp
      go_at_call 75
      refine HP3.out.mono ?_
      rintro e9 w9 ⟨rfl, F9, hT9, hs9⟩
      rw [HST.out] at hs9
      go_simp
      exact hK _ _ (chain_step HI.out hus hbs 7 (.tuple #[]) (by show 7 < 8; decide) rfl hbp (none_of rfl) (HI.out.ph.next 0 7 _ rfl hb0 (.inl rfl) (by decide) ⟨F9, hT9, hs9⟩) (by simp only [puts, setAll, List.set_cons_zero, List.set_cons_succ, List.setIfInBounds_toArray]))
    exact Steps.nil
  · intro us w9 hus dd hD2 hJ
    obtain ⟨p0, p1, p2, p3, p4, p5, p6, p7, rfl⟩ := len8 hus
    obtain ⟨F9, hT9, hs9⟩ := hJ.ph.all (fun c hc => hD2 c (by
      have : c = 7 := by simpa using hc
      show c < 8
      omega))
    have hob := HOB.out
    have hno : ¬ F1 o := HTF.out.not_lab hob.lab (by decide)
    have hfin : ∃ pv' F', Box w9 o 99 (objF cl proto false pv' ev fn kd) ∧ PrAt B w9 pv' F' (putO (O, []) (keyT k) v fl).1 ∧ Touch (fun b => b = o ∨ F b) w w9 ∧ ∀ b, F' b → F b ∨ w.heap.size ≤ b := by
      refine ⟨_, F9, (hs9.box hob hno).1, .inr ⟨t, rfl, ?_⟩, ?_, ?_⟩
      · have e2 : (putO (O, []) (keyT k) v fl) = ((putO (O, []) (keyT k) v fl).1, []) := by
          unfold putO
          split <;> rfl
        rw [← e2]
        exact hT9
      · exact touch_new HTC.out.1 hs9.touch (fun b hb => (HTC.out.2 b hb).imp .inr id)
      · intro b hb
        rcases hs9.fresh b hb with h | h
        · exact HTC.out.2 b h
        · exact .inr (by have := HTC.out.1.size; omega)
    have HZ := Veil.mk hfin
    clear hJ hD2 hT9 hs9 hob hno hfin
    simp only [puts, setAll, List.set_cons_zero, List.set_cons_succ, List.setIfInBounds_toArray]
    go_wp2
    go_ret
    obtain ⟨pv', F', r1, r2, r3, r4⟩ := HZ.out
    exact ⟨rfl, pv', r1, F', r2, r3, r4⟩
set_option maxHeartbeats 2000000 in
set_option maxRecDepth 100000 in
theorem define_more {w : World} {B o : Nat} {cl proto : Int} {ev fn : Value} {kd : Int} {F1 : Nat → Prop} {O : List En} {t : Nat} (hb : Box w o 99 (objF cl proto false (.pointer (some ⟨t, 0, none⟩)) ev fn kd)) (hc : (cl == 1) = false) (hT : Tf B t F1 (O, []) w) (hn : O.length < 40000) (fl : Int) (k v : Vt) (hk : k.2.2.size ≤ 1000) (HLK : ∃ v0, lookO O (keyT k) = (v0, 0, false)) :
    Calls Tryz.prog 34 #[.pointer (some ⟨o, 0, none⟩), valV k, valV v, .int .i64 fl] w fun e w' => e = .returned (.bool true) ∧ ∃ pv' F', Box w' o 99 (objF cl proto false pv' ev fn kd) ∧ PrAt B w' pv' F' (putO (O, []) (keyT k) v fl).1 ∧ Touch (fun b => b = o ∨ F1 b) w w' ∧ ∀ b, F' b → F1 b ∨ w.heap.size ≤ b := by
  have hlt := hb.lt
  have hp : PrAt B w (.pointer (some ⟨t, 0, none⟩)) F1 O := .inr ⟨t, rfl, hT⟩
  have HTW := Veil.mk hT
  have HOW : Veil (∀ W, Below w.heap.size w W → Calls Tryz.prog 49 #[.pointer (some ⟨o, 0, none⟩), valV k] W fun e w' => e = .returned (.tuple #[valV (lookO O (keyT k)).1, .int .i64 (lookO O (keyT k)).2.1, .bool (lookO O (keyT k)).2.2]) ∧ Below W.heap.size W w') := ⟨fun W hbw => own_plain (hb.below hbw) hc (hp.on hbw) k hk⟩
  have HIL : Veil (∀ W, Below w.heap.size w W → Calls Tryz.prog 71 #[.pointer (some ⟨o, 0, none⟩), valV k] W fun e w' => e = .returned (.bool false) ∧ Below W.heap.size W w') := ⟨fun W hbw => isLen_plain (hb.below hbw) hc k⟩
  have HEL : Veil (∀ W, Below w.heap.size w W → Calls Tryz.prog 50 #[.pointer (some ⟨o, 0, none⟩), valV k] W fun e w' => e = .returned (.int .i64 (-1)) ∧ Below W.heap.size W w') := ⟨fun W hbw => elem_plain (hb.below hbw) hc k⟩
  obtain ⟨kb, hkb⟩ : ∃ kb, w.heap.size = kb := ⟨_, rfl⟩
  obtain ⟨vb, hvb⟩ : ∃ vb, kb + 1 = vb := ⟨_, rfl⟩
  have b1 := (Box.new w 30 #[.int .i64 k.1, .int .i64 k.2.1, .string k.2.2]).more (.cells #[.int .i64 v.1, .int .i64 v.2.1, .string v.2.2] 30)
  have b2 := Box.new (w.alloc (.cells #[.int .i64 k.1, .int .i64 k.2.1, .string k.2.2] 30)) 30 #[.int .i64 v.1, .int .i64 v.2.1, .string v.2.2]
  have bb : Below w.heap.size w ((w.alloc (.cells #[.int .i64 k.1, .int .i64 k.2.1, .string k.2.2] 30)).alloc (.cells #[.int .i64 v.1, .int .i64 v.2.1, .string v.2.2] 30)) := ((Below.refl _ _).alloc (Nat.le_refl _) _).alloc (by simp) _
  rw [World.size_alloc] at b2
  obtain ⟨W0, hW0⟩ : ∃ W0, ((w.alloc (.cells #[.int .i64 k.1, .int .i64 k.2.1, .string k.2.2] 30)).alloc (.cells #[.int .i64 v.1, .int .i64 v.2.1, .string v.2.2] 30)) = W0 := ⟨_, rfl⟩
  rw [hW0] at b1 b2 bb
  have HW0 := Veil.mk (And.intro hW0 (And.intro hkb hvb))
  have HBO := Veil.mk (And.intro hb bb)
  have HON := Veil.mk (show (O, ([] : List (Nat × List En))).1.length < 40000 from hn)
  have HKS := Veil.mk hk
  have HKL := Veil.mk (show w.heap.size ≤ kb ∧ w.heap.size ≤ vb by omega)
  rw [hkb] at b1 b2
  rw [hvb] at b2
  have HB12 := Veil.mk (And.intro b1 b2)
  have x0 : W0.cell? ⟨kb, 0, none⟩ = some (.int .i64 k.1) := b1.at_ 0
  have x1 : W0.cell? ⟨kb, 1, none⟩ = some (.int .i64 k.2.1) := b1.at_ 1
  have x2 : W0.cell? ⟨kb, 2, none⟩ = some (.string k.2.2) := b1.at_ 2
  clear hb hp hT b1 b2 bb hW0 hkb hvb hlt hn
  go_enter Tryz.func34, Tryz.ntmps34
  go_upto_region 1 with (fail)
  rw [HW0.out.1, HW0.out.2.1, HW0.out.2.2]
  clear HW0
  obtain ⟨v0, hl⟩ : ∃ v0, lookO O (keyT k) = (v0, 0, false) := HLK
  have HOW1 : Veil (∀ W, Below w.heap.size w W → Calls Tryz.prog 49 #[.pointer (some ⟨o, 0, none⟩), valV k] W fun e w' => e = .returned (.tuple #[valV v0, .int .i64 0, .bool false]) ∧ Below W.heap.size W w') := ⟨fun W hb => (HOW.out W hb).mono fun e w' h => ⟨by have := h.1; rw [hl] at this; exact this, h.2⟩⟩
  clear hl
  go_upto_region 4 with (go_at_call 49; ((with_reducible refine (HOW1.out _ HBO.out.2).mono ?_); rintro e w1 ⟨rfl, hb1⟩))
  have hal : Below w1.heap.size w1 (w1.alloc (.cells #[.int .i64 v0.1, .int .i64 v0.2.1, .string v0.2.2] 30)) := (Below.refl _ _).alloc (Nat.le_refl _) _
  obtain ⟨W2, hW2⟩ : ∃ W2, w1.alloc (.cells #[.int .i64 v0.1, .int .i64 v0.2.1, .string v0.2.2] 30) = W2 := ⟨_, rfl⟩
  rw [hW2] at hal ⊢
  have HB2 : Veil (Below w.heap.size w W2) := ⟨blw2 (blw2 HBO.out.2 hb1) hal⟩
  have q1 := (HB12.out.1.on hb1 HB12.out.1.lt).below hal
  have q2 := (HB12.out.2.on hb1 HB12.out.2.lt).below hal
  have HB22 := Veil.mk (And.intro q1 q2)
  clear x0 x1 x2 hb1 hal hW2
  have x0 : W2.cell? ⟨kb, 0, none⟩ = some (.int .i64 k.1) := q1.at_ 0
  have x1 : W2.cell? ⟨kb, 1, none⟩ = some (.int .i64 k.2.1) := q1.at_ 1
  have x2 : W2.cell? ⟨kb, 2, none⟩ = some (.string k.2.2) := q1.at_ 2
  have o2 : W2.cell? ⟨o, 2, none⟩ = some (.bool false) := (HBO.out.1.below HB2.out).at_ 2
  clear q1 q2
  go_upto_region 10 with (go_at_call 71; ((with_reducible refine (HIL.out _ HB2.out).mono ?_); rintro e w3 ⟨rfl, hb3⟩))
  clear x0 x1 x2 o2
  have HB3 : Veil (Below w.heap.size w w3) := ⟨blw2 HB2.out hb3⟩
  have q1 := HB22.out.1.below hb3
  have q2 := HB22.out.2.below hb3
  have HB33 := Veil.mk (And.intro q1 q2)
  have x0 : w3.cell? ⟨kb, 0, none⟩ = some (.int .i64 k.1) := q1.at_ 0
  have x1 : w3.cell? ⟨kb, 1, none⟩ = some (.int .i64 k.2.1) := q1.at_ 1
  have x2 : w3.cell? ⟨kb, 2, none⟩ = some (.string k.2.2) := q1.at_ 2
  clear q1 q2 hb3
  go_upto_region 13 with (go_at_call 50; ((with_reducible refine (HEL.out _ HB3.out).mono ?_); rintro e w4 ⟨rfl, hb4⟩))
  clear x0 x1 x2
  have HB4 : Veil (Below w.heap.size w w4) := ⟨blw2 HB3.out hb4⟩
  have q1 := HB33.out.1.below hb4
  have q2 := HB33.out.2.below hb4
  have HB44 := Veil.mk (And.intro q1 q2)
  have o3 : w4.cell? ⟨o, 3, none⟩ = some (.pointer (some ⟨t, 0, none⟩)) := (HBO.out.1.below HB4.out).at_ 3
  clear q1 q2 hb4 HB2 HB22 HB3 HB33 HOW HIL HEL HOW1
  have HQ : Veil (Box w4 o 99 (objF cl proto false (.pointer (some ⟨t, 0, none⟩)) ev fn kd) ∧ Tf B t F1 (O, []) w4 ∧ Box w4 kb 30 #[.int .i64 k.1, .int .i64 k.2.1, .string k.2.2] ∧ Box w4 vb 30 #[.int .i64 v.1, .int .i64 v.2.1, .string v.2.2] ∧ Touch (fun b => b = o ∨ F1 b) w w4 ∧ ∀ b, F1 b → F1 b ∨ w.heap.size ≤ b) := ⟨HBO.out.1.below HB4.out, HTW.out.on HB4.out, HB44.out.1, HB44.out.2, Touch.of_below HB4.out, fun b hb => .inl hb⟩
  go_upto_region 15 with (fail)
  clear o3
  obtain ⟨WD, hWD⟩ : ∃ WD, w4.drew = WD := ⟨_, rfl⟩
  have HOB : Veil (Box WD o 99 (objF cl proto false (.pointer (some ⟨t, 0, none⟩)) ev fn kd)) := ⟨by rw [← hWD]; exact HQ.out.1.drew⟩
  have HTF : Veil (Tf B t F1 (O, []) WD) := ⟨by rw [← hWD]; exact HQ.out.2.1.on (Below.refl _ _).drew⟩
  have HKB : Veil (Box WD kb 30 #[.int .i64 k.1, .int .i64 k.2.1, .string k.2.2]) := ⟨by rw [← hWD]; exact HQ.out.2.2.1.drew⟩
  have HVB : Veil (Box WD vb 30 #[.int .i64 v.1, .int .i64 v.2.1, .string v.2.2]) := ⟨by rw [← hWD]; exact HQ.out.2.2.2.1.drew⟩
  have HTC : Veil (Touch (fun b => b = o ∨ F1 b) w WD ∧ ∀ b, F1 b → F1 b ∨ w.heap.size ≤ b) := ⟨by rw [← hWD]; exact HQ.out.2.2.2.2.1.trans (Touch.of_below (Below.refl _ _).drew), HQ.out.2.2.2.2.2⟩
  have HPU := Veil.mk (put_tf HTF.out HON.out (by simp) k v fl HKS.out)
  have HWD := Veil.mk hWD
  clear hWD HQ
  refine wp_region_chain ([some (· = .pointer (some ⟨o, 0, none⟩)), some (· = .pointer (some ⟨o, 0, none⟩)), some (· = .pointer (some ⟨o, 3, none⟩)), some (· = .pointer (some ⟨t, 0, none⟩)), some (· = valV k), some (· = valV v), some (· = .int .i64 fl), none] : List (Option (Value → Prop))) (LPh [7] (DfSt B t F1 (putO (O, []) (keyT k) v fl) WD)) [some 77, some 78, some 79, some 80, some 81, some 82, some 83, some 84] (curV' _ [some 77, some 78, some 79, some 80, some 81, some 82, some 83, some 84]) (by kernel_rfl) rfl rfl (puts_cur _ _) (LPh.start (show w4.drew = WD from HWD.out)) ?_ (by kernel_rfl) ?_
  · refine Steps.cons rfl (fun bb aa w' hbs hb0 hbp hI K hK => ?_) ?_
    · obtain ⟨us, hus, ha, hI⟩ := hI
      obtain ⟨u0, u1, u2, u3, u4, u5, u6, u7, rfl⟩ := len8 hus
      have HI := Veil.mk hI
      clear hI
      rw [ha]
      simp only [puts, setAll, List.setIfInBounds_toArray, List.set_cons_zero, List.set_cons_succ]
      go_simp
      exact hK _ _ (chain_step HI.out hus hbs 0 _ (by show 0 < 8; decide) rfl hbp (val_of rfl rfl) (HI.out.ph.step 0 _ (by decide) (by decide)) (by simp only [puts, setAll, List.set_cons_zero, List.set_cons_succ, List.setIfInBounds_toArray]))
    refine Steps.cons rfl (fun bb aa w' hbs hb0 hbp hI K hK => ?_) ?_
    · obtain ⟨us, hus, ha, hI⟩ := hI
      obtain ⟨u0, u1, u2, u3, u4, u5, u6, u7, rfl⟩ := len8 hus
      have e0 : u0 = .pointer (some ⟨o, 0, none⟩) := hI.val 0 _ rfl (gen_after 0 (by kernel_rfl) hbp)
      subst e0
      have HI := Veil.mk hI
      clear hI
      rw [ha]
      simp only [puts, setAll, List.setIfInBounds_toArray, List.set_cons_zero, List.set_cons_succ]
      go_simp
      exact hK _ _ (chain_step HI.out hus hbs 1 _ (by show 1 < 8; decide) rfl hbp (val_of rfl rfl) (HI.out.ph.step 1 _ (by decide) (by decide)) (by simp only [puts, setAll, List.set_cons_zero, List.set_cons_succ, List.setIfInBounds_toArray]))
    refine Steps.cons rfl (fun bb aa w' hbs hb0 hbp hI K hK => ?_) ?_
    · obtain ⟨us, hus, ha, hI⟩ := hI
      obtain ⟨u0, u1, u2, u3, u4, u5, u6, u7, rfl⟩ := len8 hus
      have e1 : u1 = .pointer (some ⟨o, 0, none⟩) := hI.val 1 _ rfl (gen_after 1 (by kernel_rfl) hbp)
      subst e1
      have HI := Veil.mk hI
      clear hI
      rw [ha]
      simp only [puts, setAll, List.setIfInBounds_toArray, List.set_cons_zero, List.set_cons_succ]
      go_simp
      exact hK _ _ (chain_step HI.out hus hbs 2 _ (by show 2 < 8; decide) rfl hbp (val_of rfl rfl) (HI.out.ph.step 2 _ (by decide) (by decide)) (by simp only [puts, setAll, List.set_cons_zero, List.set_cons_succ, List.setIfInBounds_toArray]))
    refine Steps.cons rfl (fun bb aa w' hbs hb0 hbp hI K hK => ?_) ?_
    · obtain ⟨us, hus, ha, hI⟩ := hI
      obtain ⟨u0, u1, u2, u3, u4, u5, u6, u7, rfl⟩ := len8 hus
      have e2 : u2 = .pointer (some ⟨o, 3, none⟩) := hI.val 2 _ rfl (gen_after 2 (by kernel_rfl) hbp)
      subst e2
      have h7 := hI.before 7 3 rfl (by kernel_rfl) hb0
      have hst := hI.ph.at_ 0 7 rfl h7 (.inl rfl)
      clear h7
      have c0 : w'.cell? ⟨o, 3, none⟩ = some (.pointer (some ⟨t, 0, none⟩)) := by rw [show w' = WD from hst]; exact HOB.out.at_ 3
      have HI := Veil.mk hI
      clear hI
      rw [ha]
      simp only [puts, setAll, List.setIfInBounds_toArray, List.set_cons_zero, List.set_cons_succ]
      go_simp
      exact hK _ _ (chain_step HI.out hus hbs 3 _ (by show 3 < 8; decide) rfl hbp (val_of rfl rfl) (HI.out.ph.step 3 _ (by decide) (by decide)) (by simp only [puts, setAll, List.set_cons_zero, List.set_cons_succ, List.setIfInBounds_toArray]))
    refine Steps.cons rfl (fun bb aa w' hbs hb0 hbp hI K hK => ?_) ?_
    · obtain ⟨us, hus, ha, hI⟩ := hI
      obtain ⟨u0, u1, u2, u3, u4, u5, u6, u7, rfl⟩ := len8 hus
      have h7 := hI.before 7 4 rfl (by kernel_rfl) hb0
      have hst := hI.ph.at_ 0 7 rfl h7 (.inl rfl)
      clear h7
      have HKW : Box w' kb 30 #[.int .i64 k.1, .int .i64 k.2.1, .string k.2.2] := by rw [show w' = WD from hst]; exact HKB.out
      have c0 : w'.cell? ⟨kb, 0, none⟩ = some (.int .i64 k.1) := HKW.at_ 0
      have c1 : w'.cell? ⟨kb, 1, none⟩ = some (.int .i64 k.2.1) := HKW.at_ 1
      have c2 : w'.cell? ⟨kb, 2, none⟩ = some (.string k.2.2) := HKW.at_ 2
      clear HKW
      have HI := Veil.mk hI
      clear hI
      rw [ha]
      simp only [puts, setAll, List.setIfInBounds_toArray, List.set_cons_zero, List.set_cons_succ]
      go_simp
      exact hK _ _ (chain_step HI.out hus hbs 4 _ (by show 4 < 8; decide) rfl hbp (val_of rfl rfl) (HI.out.ph.step 4 _ (by decide) (by decide)) (by simp only [puts, setAll, List.set_cons_zero, List.set_cons_succ, List.setIfInBounds_toArray]))
    refine Steps.cons rfl (fun bb aa w' hbs hb0 hbp hI K hK => ?_) ?_
    · obtain ⟨us, hus, ha, hI⟩ := hI
      obtain ⟨u0, u1, u2, u3, u4, u5, u6, u7, rfl⟩ := len8 hus
      have h7 := hI.before 7 5 rfl (by kernel_rfl) hb0
      have hst := hI.ph.at_ 0 7 rfl h7 (.inl rfl)
      clear h7
      have HKW : Box w' vb 30 #[.int .i64 v.1, .int .i64 v.2.1, .string v.2.2] := by rw [show w' = WD from hst]; exact HVB.out
      have c0 : w'.cell? ⟨vb, 0, none⟩ = some (.int .i64 v.1) := HKW.at_ 0
      have c1 : w'.cell? ⟨vb, 1, none⟩ = some (.int .i64 v.2.1) := HKW.at_ 1
      have c2 : w'.cell? ⟨vb, 2, none⟩ = some (.string v.2.2) := HKW.at_ 2
      clear HKW
      have HI := Veil.mk hI
      clear hI
      rw [ha]
      simp only [puts, setAll, List.setIfInBounds_toArray, List.set_cons_zero, List.set_cons_succ]
      go_simp
      exact hK _ _ (chain_step HI.out hus hbs 5 _ (by show 5 < 8; decide) rfl hbp (val_of rfl rfl) (HI.out.ph.step 5 _ (by decide) (by decide)) (by simp only [puts, setAll, List.set_cons_zero, List.set_cons_succ, List.setIfInBounds_toArray]))
    refine Steps.cons rfl (fun bb aa w' hbs hb0 hbp hI K hK => ?_) ?_
    · obtain ⟨us, hus, ha, hI⟩ := hI
      obtain ⟨u0, u1, u2, u3, u4, u5, u6, u7, rfl⟩ := len8 hus
      have HI := Veil.mk hI
      clear hI
      rw [ha]
      simp only [puts, setAll, List.setIfInBounds_toArray, List.set_cons_zero, List.set_cons_succ]
      go_simp
      exact hK _ _ (chain_step HI.out hus hbs 6 _ (by show 6 < 8; decide) rfl hbp (val_of rfl rfl) (HI.out.ph.step 6 _ (by decide) (by decide)) (by simp only [puts, setAll, List.set_cons_zero, List.set_cons_succ, List.setIfInBounds_toArray]))
    refine Steps.cons rfl (fun bb aa w' hbs hb0 hbp hI K hK => ?_) ?_
    · obtain ⟨us, hus, ha, hI⟩ := hI
      obtain ⟨u0, u1, u2, u3, u4, u5, u6, u7, rfl⟩ := len8 hus
      have e3 : u3 = .pointer (some ⟨t, 0, none⟩) := hI.val 3 _ rfl (gen_after 3 (by kernel_rfl) hbp)
      subst e3
      have e4 : u4 = valV k := hI.val 4 _ rfl (gen_after 4 (by kernel_rfl) hbp)
      subst e4
      have e5 : u5 = valV v := hI.val 5 _ rfl (gen_after 5 (by kernel_rfl) hbp)
      subst e5
      have e6 : u6 = .int .i64 fl := hI.val 6 _ rfl (gen_after 6 (by kernel_rfl) hbp)
      subst e6
      have hst := hI.ph.at_ 0 7 rfl hb0 (.inl rfl)
      have HP2 := HPU.out
      rw [← show w' = WD from hst] at HP2
      have HP3 := Veil.mk HP2
      have HST := Veil.mk (show w' = WD from hst)
      clear HP2
      have HI := Veil.mk hI
      clear hI
      rw [ha]
      simp only [puts, setAll, List.setIfInBounds_toArray, List.set_cons_zero, List.set_cons_succ]
      go_simp
      go_at_call 75
      refine HP3.out.mono ?_
      rintro e9 w9 ⟨rfl, F9, hT9, hs9⟩
      rw [HST.out] at hs9
      go_simp
      exact hK _ _ (chain_step HI.out hus hbs 7 (.tuple #[]) (by show 7 < 8; decide) rfl hbp (none_of rfl) (HI.out.ph.next 0 7 _ rfl hb0 (.inl rfl) (by decide) ⟨F9, hT9, hs9⟩) (by simp only [puts, setAll, List.set_cons_zero, List.set_cons_succ, List.setIfInBounds_toArray]))
    exact Steps.nil
  · intro us w9 hus dd hD2 hJ
    obtain ⟨p0, p1, p2, p3, p4, p5, p6, p7, rfl⟩ := len8 hus
    obtain ⟨F9, hT9, hs9⟩ := hJ.ph.all (fun c hc => hD2 c (by
      have : c = 7 := by simpa using hc
      show c < 8
      omega))
    have hob := HOB.out
    have hno : ¬ F1 o := HTF.out.not_lab hob.lab (by decide)
    have hfin : ∃ pv' F', Box w9 o 99 (objF cl proto false pv' ev fn kd) ∧ PrAt B w9 pv' F' (putO (O, []) (keyT k) v fl).1 ∧ Touch (fun b => b = o ∨ F1 b) w w9 ∧ ∀ b, F' b → F1 b ∨ w.heap.size ≤ b := by
      refine ⟨_, F9, (hs9.box hob hno).1, .inr ⟨t, rfl, ?_⟩, ?_, ?_⟩
      · have e2 : (putO (O, []) (keyT k) v fl) = ((putO (O, []) (keyT k) v fl).1, []) := by
          unfold putO
          split <;> rfl
        rw [← e2]
        exact hT9
      · exact touch_new HTC.out.1 hs9.touch (fun b hb => (HTC.out.2 b hb).imp .inr id)
      · intro b hb
        rcases hs9.fresh b hb with h | h
        · exact HTC.out.2 b h
        · exact .inr (by have := HTC.out.1.size; omega)
    have HZ := Veil.mk hfin
    clear hJ hD2 hT9 hs9 hob hno hfin
    simp only [puts, setAll, List.set_cons_zero, List.set_cons_succ, List.setIfInBounds_toArray]
    go_wp2
    go_ret
    obtain ⟨pv', F', r1, r2, r3, r4⟩ := HZ.out
    exact ⟨rfl, pv', r1, F', r2, r3, r4⟩
end Go.Proofs.YtgdkjkfbknbgkaaGreatDoor
