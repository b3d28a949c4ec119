/- Package heap: Own of an object that is no array. -/
import Derived.Test.YtgdkjkfbknbgkaaGreatDoorHb
import Derived.Test.YtgdkjkfbknbgkaaGreatDoorIl
import Derived.Test.YtgdkjkfbknbgkaaGreatDoorIr
namespace Go.Proofs.YtgdkjkfbknbgkaaGreatDoor
open Go Go.RowKit

theorem len12 {α : Type} {us : List α} (h : us.length = 12) : ∃ a0 a1 a2 a3 a4 a5 a6 a7 a8 a9 a10 a11, us = [a0, a1, a2, a3, a4, a5, a6, a7, a8, a9, a10, a11] := by
  match us, h with
  | [a0, a1, a2, a3, a4, a5, a6, a7, a8, a9, a10, a11], _ => exact ⟨a0, a1, a2, a3, a4, a5, a6, a7, a8, a9, a10, a11, rfl⟩
theorem ents_uniq {T : Tab} (hI : Inv T) : ∀ x ∈ ents T.sl, ∀ y ∈ ents T.sl, x.1 = y.1 → x = y := by
  intro x hx y hy he
  obtain ⟨s, hs, rfl⟩ := List.mem_map.1 hx
  obtain ⟨r, hr, rfl⟩ := List.mem_map.1 hy
  obtain ⟨hs1, hs2⟩ := List.mem_filter.1 hs
  obtain ⟨hr1, hr2⟩ := List.mem_filter.1 hr
  obtain ⟨i, hi⟩ := List.mem_iff_getElem?.1 hs1
  obtain ⟨j, hj⟩ := List.mem_iff_getElem?.1 hr1
  have := hI.uniq i j s r hi hj hs2 hr2 he
  subst this
  rw [hi] at hj
  injection hj with hj
  rw [hj]
theorem PrAt.uniq {B : Nat} {w : World} {pv : Value} {F : Nat → Prop} {O : List En} (h : PrAt B w pv F O) : ∀ x ∈ O, ∀ y ∈ O, x.1 = y.1 → x = y := by
  rcases h with ⟨_, rfl, _⟩ | ⟨t, _, T, vs, vb, vc, hT, hG, ho, hF⟩
  · intro x hx; cases hx
  · have h1 : ents T.sl = O := congrArg Prod.fst ho
    rw [← h1]
    exact ents_uniq hG.inv
/-- What is found of a key. -/
def lookO (O : List En) (k : Vt) : Vt × Int × Bool := match O.find? (fun x => decide (x.1 = k)) with
  | some x => (x.2.1, x.2.2, true)
  | none => ((0, 0, ⟨#[]⟩), 0, false)
theorem got_look {O : List En} {k : Vt} {e : Ending} (hu : ∀ x ∈ O, ∀ y ∈ O, x.1 = y.1 → x = y) (h : GotP O k e) : e = .returned (.tuple #[valV (lookO O (keyT k)).1, .int .i64 (lookO O (keyT k)).2.1, .bool (lookO O (keyT k)).2.2]) := by
  unfold lookO
  cases hf : O.find? (fun x => decide (x.1 = keyT k)) with
  | none =>
    rcases h with ⟨x, hx, hk, -⟩ | ⟨_, h⟩
    · have := List.find?_eq_none.1 hf x hx
      simp [hk] at this
    · exact h
  | some y =>
    have hy := List.mem_of_find?_eq_some hf
    have hy2 : y.1 = keyT k := by simpa using List.find?_some hf
    rcases h with ⟨x, hx, hk, h⟩ | ⟨h, _⟩
    · have := hu x hx y hy (hk.trans hy2.symm)
      subst this
      exact h
    · exact absurd ⟨y, hy, hy2⟩ h
def OwSt (WD : World) (rb : Nat) (v : Vt) : Nat → (Nat → Value) → World → Prop
  | 0 => fun _ w => w = WD
  | 1 => fun _ w => Below WD.heap.size WD w
  | _ => fun _ w => ∃ w2, Below WD.heap.size WD w2 ∧ w = ((w2.setCell ⟨rb, 0, none⟩ (.int .i64 v.1)).setCell ⟨rb, 1, none⟩ (.int .i64 v.2.1)).setCell ⟨rb, 2, none⟩ (.string v.2.2)
set_option maxHeartbeats 2000000 in
set_option maxRecDepth 100000 in
theorem own_plain {w : World} {B o : Nat} {cl proto : Int} {cs : Bool} {pv ev fn : Value} {kd : Int} {F : Nat → Prop} {O : List En} (hb : Box w o 99 (objF cl proto cs pv ev fn kd)) (hc : (cl == 1) = false) (hp : PrAt B w pv F O) (k : Vt) (hk : k.2.2.size ≤ 1000) :
    Calls Tryz.prog 49 #[.pointer (some ⟨o, 0, none⟩), valV k] w fun e w' => e = .returned (.tuple #[valV (lookO O (keyT k)).1, .int .i64 (lookO O (keyT k)).2.1, .bool (lookO O (keyT k)).2.2]) ∧ Below w.heap.size w w' := by
  obtain ⟨⟨v, f, ok⟩, hl⟩ : ∃ r, lookO O (keyT k) = r := ⟨_, rfl⟩
  rw [hl]
  have hlt := hb.lt
  have HG0 : Veil (∀ W, Below w.heap.size w W → Calls Tryz.prog 85 #[pv, valV k] W fun e w' => e = .returned (.tuple #[valV v, .int .i64 f, .bool ok]) ∧ Below W.heap.size W w') := ⟨fun W hbw => (pget_any (hp.on hbw) k hk).mono fun e w' h => ⟨by have := got_look hp.uniq h.1; rw [hl] at this; exact this, h.2⟩⟩
  have HIL : Veil (∀ W, Below w.heap.size w W → Calls Tryz.prog 71 #[.pointer (some ⟨o, 0, none⟩), valV k] W fun e w' => e = .returned (.bool false) ∧ Below W.heap.size W w') := ⟨fun W hbw => isLen_plain (hb.below hbw) hc k⟩
  have HEL : Veil (∀ W, Below w.heap.size w W → Calls Tryz.prog 50 #[.pointer (some ⟨o, 0, none⟩), valV k] W fun e w' => e = .returned (.int .i64 (-1)) ∧ Below W.heap.size W w') := ⟨fun W hbw => elem_plain (hb.below hbw) hc k⟩
  obtain ⟨kb, hkb⟩ : ∃ kb, w.heap.size = kb := ⟨_, rfl⟩
  obtain ⟨rb, hrb⟩ : ∃ rb, kb + 1 = rb := ⟨_, rfl⟩
  have b1 := (Box.new w 30 #[.int .i64 k.1, .int .i64 k.2.1, .string k.2.2]).more (.cells #[.int .i64 0, .int .i64 0, .string ⟨#[]⟩] 30)
  have b2 := Box.new (w.alloc (.cells #[.int .i64 k.1, .int .i64 k.2.1, .string k.2.2] 30)) 30 #[.int .i64 0, .int .i64 0, .string ⟨#[]⟩]
  have bb : Below w.heap.size w ((w.alloc (.cells #[.int .i64 k.1, .int .i64 k.2.1, .string k.2.2] 30)).alloc (.cells #[.int .i64 0, .int .i64 0, .string ⟨#[]⟩] 30)) := ((Below.refl _ _).alloc (Nat.le_refl _) _).alloc (by simp) _
  rw [World.size_alloc] at b2
  obtain ⟨W0, hW0⟩ : ∃ W0, ((w.alloc (.cells #[.int .i64 k.1, .int .i64 k.2.1, .string k.2.2] 30)).alloc (.cells #[.int .i64 0, .int .i64 0, .string ⟨#[]⟩] 30)) = W0 := ⟨_, rfl⟩
  rw [hW0] at b1 b2 bb
  have HW0 := Veil.mk (And.intro hW0 (And.intro hkb hrb))
  have HBO := Veil.mk (And.intro hb bb)
  rw [hkb] at b1 b2 ⊢
  rw [hrb] at b2
  have HB12 := Veil.mk (And.intro b1 b2)
  have x0 : W0.cell? ⟨kb, 0, none⟩ = some (.int .i64 k.1) := b1.at_ 0
  have x1 : W0.cell? ⟨kb, 1, none⟩ = some (.int .i64 k.2.1) := b1.at_ 1
  have x2 : W0.cell? ⟨kb, 2, none⟩ = some (.string k.2.2) := b1.at_ 2
  clear hl hb hp b1 b2 bb hW0 hkb hrb hlt
  go_enter Tryz.func49, Tryz.ntmps49
  go_upto_region 1 with (fail)
  rw [HW0.out.1, HW0.out.2.1, HW0.out.2.2]
  go_upto_region 5 with (go_at_call 71; ((with_reducible refine (HIL.out _ HBO.out.2).mono ?_); rintro e w1 ⟨rfl, hb1⟩))
  have hbw1 : Below w.heap.size w w1 := blw2 HBO.out.2 hb1
  have HB1 := Veil.mk hbw1
  have q1 := HB12.out.1.on hb1 HB12.out.1.lt
  have q2 := HB12.out.2.on hb1 HB12.out.2.lt
  have HB2 := Veil.mk (And.intro q1 q2)
  clear x0 x1 x2
  have x0 : w1.cell? ⟨kb, 0, none⟩ = some (.int .i64 k.1) := q1.at_ 0
  have x1 : w1.cell? ⟨kb, 1, none⟩ = some (.int .i64 k.2.1) := q1.at_ 1
  have x2 : w1.cell? ⟨kb, 2, none⟩ = some (.string k.2.2) := q1.at_ 2
  clear hb1 hbw1 q1 q2
  go_upto_region 7 with (go_at_call 50; ((with_reducible refine (HEL.out _ HB1.out).mono ?_); rintro e w3 ⟨rfl, hb3⟩))
  have HB3 := Veil.mk (blw2 HB1.out hb3)
  have HKB0 := Veil.mk (And.intro (HB2.out.1.on hb3 HB2.out.1.lt) (HB2.out.2.on hb3 HB2.out.2.lt))
  clear x0 x1 x2 hb3 HB1 HB2 HB12
  obtain ⟨WD, hWD⟩ : ∃ WD, w3.drew = WD := ⟨_, rfl⟩
  have HBD : Veil (Below w.heap.size w WD) := ⟨by rw [← hWD]; exact HB3.out.drew⟩
  have HOB : Veil (Box WD o 99 (objF cl proto cs pv ev fn kd)) := ⟨HBO.out.1.below HBD.out⟩
  have HKB : Veil (Box WD kb 30 #[.int .i64 k.1, .int .i64 k.2.1, .string k.2.2]) := ⟨by rw [← hWD]; exact HKB0.out.1.drew⟩
  have HRB : Veil (Box WD rb 30 #[.int .i64 0, .int .i64 0, .string ⟨#[]⟩]) := ⟨by rw [← hWD]; exact HKB0.out.2.drew⟩
  have HG := Veil.mk (HG0.out WD HBD.out)
  have HWD := Veil.mk hWD
  have HRL : Veil (w.heap.size ≤ rb) := ⟨by have := HW0.out.2.1; have := HW0.out.2.2; omega⟩
  clear hWD HG0 HB3 HKB0 HBO HIL HEL
  refine wp_region_chain ([some (· = .pointer (some ⟨o, 0, none⟩)), some (· = .pointer (some ⟨o, 0, none⟩)), some (· = .pointer (some ⟨o, 3, none⟩)), some (· = pv), some (· = valV k), some (· = .tuple #[valV v, .int .i64 f, .bool ok]), some (· = valV v), some (· = .int .i64 f), some (· = .bool ok), none, some (· = .int .i64 f), some (· = .bool ok)] : List (Option (Value → Prop))) (LPh [5, 9] (OwSt WD rb v)) [some 27, some 28, some 29, some 30, some 31, some 32, some 33, some 34, some 35, none, some 5, some 6] (curV' _ [some 27, some 28, some 29, some 30, some 31, some 32, some 33, some 34, some 35, none, some 5, some 6]) (by kernel_rfl) rfl rfl (puts_cur _ _) (LPh.start (show w3.drew = WD from HWD.out)) ?_ (by kernel_rfl) ?_
  · refine Steps.cons rfl (fun bb aa w' hbs hb0 hbp hI K hK => ?_) ?_
    · obtain ⟨us, hus, ha, hI⟩ := hI
      obtain ⟨u0, u1, u2, u3, u4, u5, u6, u7, u8, u9, u10, u11, rfl⟩ := len12 hus
      have HI := Veil.mk hI
      clear hI
      rw [ha]
      simp only [puts, setAll, List.setIfInBounds_toArray, List.set_cons_zero, List.set_cons_succ]
      go_simp
      exact hK _ _ (chain_step HI.out hus hbs 0 _ (by show 0 < 12; decide) rfl hbp (val_of rfl rfl) (HI.out.ph.step 0 _ (by decide) (by decide)) (by simp only [puts, setAll, List.set_cons_zero, List.set_cons_succ, List.setIfInBounds_toArray]))
    refine Steps.cons rfl (fun bb aa w' hbs hb0 hbp hI K hK => ?_) ?_
    · obtain ⟨us, hus, ha, hI⟩ := hI
      obtain ⟨u0, u1, u2, u3, u4, u5, u6, u7, u8, u9, u10, u11, rfl⟩ := len12 hus
      have e0 : u0 = .pointer (some ⟨o, 0, none⟩) := hI.val 0 _ rfl (gen_after 0 (by kernel_rfl) hbp)
      subst e0
      have HI := Veil.mk hI
      clear hI
      rw [ha]
      simp only [puts, setAll, List.setIfInBounds_toArray, List.set_cons_zero, List.set_cons_succ]
      go_simp
      exact hK _ _ (chain_step HI.out hus hbs 1 _ (by show 1 < 12; decide) rfl hbp (val_of rfl rfl) (HI.out.ph.step 1 _ (by decide) (by decide)) (by simp only [puts, setAll, List.set_cons_zero, List.set_cons_succ, List.setIfInBounds_toArray]))
    refine Steps.cons rfl (fun bb aa w' hbs hb0 hbp hI K hK => ?_) ?_
    · obtain ⟨us, hus, ha, hI⟩ := hI
      obtain ⟨u0, u1, u2, u3, u4, u5, u6, u7, u8, u9, u10, u11, rfl⟩ := len12 hus
      have e1 : u1 = .pointer (some ⟨o, 0, none⟩) := hI.val 1 _ rfl (gen_after 1 (by kernel_rfl) hbp)
      subst e1
      have HI := Veil.mk hI
      clear hI
      rw [ha]
      simp only [puts, setAll, List.setIfInBounds_toArray, List.set_cons_zero, List.set_cons_succ]
      go_simp
      exact hK _ _ (chain_step HI.out hus hbs 2 _ (by show 2 < 12; decide) rfl hbp (val_of rfl rfl) (HI.out.ph.step 2 _ (by decide) (by decide)) (by simp only [puts, setAll, List.set_cons_zero, List.set_cons_succ, List.setIfInBounds_toArray]))
    refine Steps.cons rfl (fun bb aa w' hbs hb0 hbp hI K hK => ?_) ?_
    · obtain ⟨us, hus, ha, hI⟩ := hI
      obtain ⟨u0, u1, u2, u3, u4, u5, u6, u7, u8, u9, u10, u11, rfl⟩ := len12 hus
      have e2 : u2 = .pointer (some ⟨o, 3, none⟩) := hI.val 2 _ rfl (gen_after 2 (by kernel_rfl) hbp)
      subst e2
      have h5 := hI.before 5 3 rfl (by kernel_rfl) hb0
      have hst := hI.ph.at_ 0 5 rfl h5 (.inl rfl)
      clear h5
      have c0 : w'.cell? ⟨o, 3, none⟩ = some pv := by rw [show w' = WD from hst]; exact HOB.out.at_ 3
      have HI := Veil.mk hI
      clear hI
      rw [ha]
      simp only [puts, setAll, List.setIfInBounds_toArray, List.set_cons_zero, List.set_cons_succ]
      go_simp
      exact hK _ _ (chain_step HI.out hus hbs 3 _ (by show 3 < 12; decide) rfl hbp (val_of rfl rfl) (HI.out.ph.step 3 _ (by decide) (by decide)) (by simp only [puts, setAll, List.set_cons_zero, List.set_cons_succ, List.setIfInBounds_toArray]))
    refine Steps.cons rfl (fun bb aa w' hbs hb0 hbp hI K hK => ?_) ?_
    · obtain ⟨us, hus, ha, hI⟩ := hI
      obtain ⟨u0, u1, u2, u3, u4, u5, u6, u7, u8, u9, u10, u11, rfl⟩ := len12 hus
      have h5 := hI.before 5 4 rfl (by kernel_rfl) hb0
      have hst := hI.ph.at_ 0 5 rfl h5 (.inl rfl)
      clear h5
      have HKW : Box w' kb 30 #[.int .i64 k.1, .int .i64 k.2.1, .string k.2.2] := by rw [show w' = WD from hst]; exact HKB.out
      have c0 : w'.cell? ⟨kb, 0, none⟩ = some (.int .i64 k.1) := HKW.at_ 0
      have c1 : w'.cell? ⟨kb, 1, none⟩ = some (.int .i64 k.2.1) := HKW.at_ 1
      have c2 : w'.cell? ⟨kb, 2, none⟩ = some (.string k.2.2) := HKW.at_ 2
      clear HKW
      have HI := Veil.mk hI
      clear hI
      rw [ha]
      simp only [puts, setAll, List.setIfInBounds_toArray, List.set_cons_zero, List.set_cons_succ]
      go_simp
      exact hK _ _ (chain_step HI.out hus hbs 4 _ (by show 4 < 12; decide) rfl hbp (val_of rfl rfl) (HI.out.ph.step 4 _ (by decide) (by decide)) (by simp only [puts, setAll, List.set_cons_zero, List.set_cons_succ, List.setIfInBounds_toArray]))
    refine Steps.cons rfl (fun bb aa w' hbs hb0 hbp hI K hK => ?_) ?_
    · obtain ⟨us, hus, ha, hI⟩ := hI
      obtain ⟨u0, u1, u2, u3, u4, u5, u6, u7, u8, u9, u10, u11, rfl⟩ := len12 hus
      have e3 : u3 = pv := hI.val 3 _ rfl (gen_after 3 (by kernel_rfl) hbp)
      subst e3
      have e4 : u4 = valV k := hI.val 4 _ rfl (gen_after 4 (by kernel_rfl) hbp)
      subst e4
      have hst := hI.ph.at_ 0 5 rfl hb0 (.inl rfl)
      have HST := Veil.mk (show w' = WD from hst)
      have HG2 := HG.out
      rw [← show w' = WD from hst] at HG2
      have HG3 := Veil.mk HG2
      clear HG2
      have HI := Veil.mk hI
      clear hI
      rw [ha]
      simp only [puts, setAll, List.setIfInBounds_toArray, List.set_cons_zero, List.set_cons_succ]
      go_simp
      go_at_call 85
      refine HG3.out.mono ?_
      rintro e9 w9 ⟨rfl, hb9⟩
      go_simp
      exact hK _ _ (chain_step HI.out hus hbs 5 (.tuple #[valV v, .int .i64 f, .bool ok]) (by show 5 < 12; decide) rfl hbp (val_of rfl rfl) (HI.out.ph.next 0 5 _ rfl hb0 (.inl rfl) (by decide) (by rw [← HST.out]; exact hb9)) (by simp only [puts, setAll, List.set_cons_zero, List.set_cons_succ, List.setIfInBounds_toArray]))
    refine Steps.cons rfl (fun bb aa w' hbs hb0 hbp hI K hK => ?_) ?_
    · obtain ⟨us, hus, ha, hI⟩ := hI
      obtain ⟨u0, u1, u2, u3, u4, u5, u6, u7, u8, u9, u10, u11, rfl⟩ := len12 hus
      have e5 : u5 = .tuple #[valV v, .int .i64 f, .bool ok] := hI.val 5 _ rfl (gen_after 5 (by kernel_rfl) hbp)
      subst e5
      have HI := Veil.mk hI
      clear hI
      rw [ha]
      simp only [puts, setAll, List.setIfInBounds_toArray, List.set_cons_zero, List.set_cons_succ]
      go_simp
      exact hK _ _ (chain_step HI.out hus hbs 6 _ (by show 6 < 12; decide) rfl hbp (val_of rfl rfl) (HI.out.ph.step 6 _ (by decide) (by decide)) (by simp only [puts, setAll, List.set_cons_zero, List.set_cons_succ, List.setIfInBounds_toArray]))
    refine Steps.cons rfl (fun bb aa w' hbs hb0 hbp hI K hK => ?_) ?_
    · obtain ⟨us, hus, ha, hI⟩ := hI
      obtain ⟨u0, u1, u2, u3, u4, u5, u6, u7, u8, u9, u10, u11, rfl⟩ := len12 hus
      have e5 : u5 = .tuple #[valV v, .int .i64 f, .bool ok] := hI.val 5 _ rfl (gen_after 5 (by kernel_rfl) hbp)
      subst e5
      have HI := Veil.mk hI
      clear hI
      rw [ha]
      simp only [puts, setAll, List.setIfInBounds_toArray, List.set_cons_zero, List.set_cons_succ]
      go_simp
      exact hK _ _ (chain_step HI.out hus hbs 7 _ (by show 7 < 12; decide) rfl hbp (val_of rfl rfl) (HI.out.ph.step 7 _ (by decide) (by decide)) (by simp only [puts, setAll, List.set_cons_zero, List.set_cons_succ, List.setIfInBounds_toArray]))
    refine Steps.cons rfl (fun bb aa w' hbs hb0 hbp hI K hK => ?_) ?_
    · obtain ⟨us, hus, ha, hI⟩ := hI
      obtain ⟨u0, u1, u2, u3, u4, u5, u6, u7, u8, u9, u10, u11, rfl⟩ := len12 hus
      have e5 : u5 = .tuple #[valV v, .int .i64 f, .bool ok] := hI.val 5 _ rfl (gen_after 5 (by kernel_rfl) hbp)
      subst e5
      have HI := Veil.mk hI
      clear hI
      rw [ha]
      simp only [puts, setAll, List.setIfInBounds_toArray, List.set_cons_zero, List.set_cons_succ]
      go_simp
      exact hK _ _ (chain_step HI.out hus hbs 8 _ (by show 8 < 12; decide) rfl hbp (val_of rfl rfl) (HI.out.ph.step 8 _ (by decide) (by decide)) (by simp only [puts, setAll, List.set_cons_zero, List.set_cons_succ, List.setIfInBounds_toArray]))
    refine Steps.cons rfl (fun bb aa w' hbs hb0 hbp hI K hK => ?_) ?_
    · obtain ⟨us, hus, ha, hI⟩ := hI
      obtain ⟨u0, u1, u2, u3, u4, u5, u6, u7, u8, u9, u10, u11, rfl⟩ := len12 hus
      have e6 : u6 = valV v := hI.val 6 _ rfl (gen_after 6 (by kernel_rfl) hbp)
      subst e6
      have hst := hI.ph.at_ 1 9 rfl hb0 (.inr ⟨5, rfl, gen_after 5 (by kernel_rfl) hbp⟩)
      replace hst : Below WD.heap.size WD w' := hst
      have hrb := HRB.out.on hst HRB.out.lt
      have c0 : w'.cell? ⟨rb, 0, none⟩ = some (.int .i64 0) := hrb.at_ 0
      have c1 : w'.cell? ⟨rb, 1, none⟩ = some (.int .i64 0) := hrb.at_ 1
      have c2 : w'.cell? ⟨rb, 2, none⟩ = some (.string ⟨#[]⟩) := hrb.at_ 2
      have f0 := hrb.free 0
      have f1 := hrb.free 1
      have f2 := hrb.free 2
      have HST := Veil.mk hst
      clear hst hrb
      have HI := Veil.mk hI
      clear hI
      rw [ha]
      simp only [puts, setAll, List.setIfInBounds_toArray, List.set_cons_zero, List.set_cons_succ]
      go_simp
      exact hK _ _ (chain_step HI.out hus hbs 9 undef (by show 9 < 12; decide) rfl hbp (none_of rfl) (HI.out.ph.next 1 9 _ rfl hb0 (.inr ⟨5, rfl, gen_after 5 (by kernel_rfl) hbp⟩) (by decide) ⟨w', HST.out, rfl⟩) (by simp only [puts, setAll, List.set_cons_zero, List.set_cons_succ, List.setIfInBounds_toArray]))
    refine Steps.cons rfl (fun bb aa w' hbs hb0 hbp hI K hK => ?_) ?_
    · obtain ⟨us, hus, ha, hI⟩ := hI
      obtain ⟨u0, u1, u2, u3, u4, u5, u6, u7, u8, u9, u10, u11, rfl⟩ := len12 hus
      have e7 : u7 = .int .i64 f := hI.val 7 _ rfl (gen_after 7 (by kernel_rfl) hbp)
      subst e7
      have HI := Veil.mk hI
      clear hI
      rw [ha]
      simp only [puts, setAll, List.setIfInBounds_toArray, List.set_cons_zero, List.set_cons_succ]
      go_simp
      exact hK _ _ (chain_step HI.out hus hbs 10 _ (by show 10 < 12; decide) rfl hbp (val_of rfl rfl) (HI.out.ph.step 10 _ (by decide) (by decide)) (by simp only [puts, setAll, List.set_cons_zero, List.set_cons_succ, List.setIfInBounds_toArray]))
    refine Steps.cons rfl (fun bb aa w' hbs hb0 hbp hI K hK => ?_) ?_
    · obtain ⟨us, hus, ha, hI⟩ := hI
      obtain ⟨u0, u1, u2, u3, u4, u5, u6, u7, u8, u9, u10, u11, rfl⟩ := len12 hus
      have e8 : u8 = .bool ok := hI.val 8 _ rfl (gen_after 8 (by kernel_rfl) hbp)
      subst e8
      have HI := Veil.mk hI
      clear hI
      rw [ha]
      simp only [puts, setAll, List.setIfInBounds_toArray, List.set_cons_zero, List.set_cons_succ]
      go_simp
      exact hK _ _ (chain_step HI.out hus hbs 11 _ (by show 11 < 12; decide) rfl hbp (val_of rfl rfl) (HI.out.ph.step 11 _ (by decide) (by decide)) (by simp only [puts, setAll, List.set_cons_zero, List.set_cons_succ, List.setIfInBounds_toArray]))
    exact Steps.nil
  · intro us w9 hus dd hD2 hJ
    obtain ⟨p0, p1, p2, p3, p4, p5, p6, p7, p8, p9, p10, p11, rfl⟩ := len12 hus
    obtain ⟨w2, q1, rfl⟩ := hJ.ph.all (fun c hc => hD2 c (by
      have : c = 5 ∨ c = 9 := by simpa using hc
      show c < 12
      omega))
    have e10 : p10 = .int .i64 f := hJ.val 10 _ rfl (hD2 10 (by show 10 < 12; decide))
    have e11 : p11 = .bool ok := hJ.val 11 _ rfl (hD2 11 (by show 11 < 12; decide))
    subst e10 e11
    have hr := HRB.out.on q1 HRB.out.lt
    have hr3 := ((hr.put 0 (.int .i64 v.1)).put 1 (.int .i64 v.2.1)).put 2 (.string v.2.2)
    have hb9 : Below w.heap.size w (((w2.setCell ⟨rb, 0, none⟩ (.int .i64 v.1)).setCell ⟨rb, 1, none⟩ (.int .i64 v.2.1)).setCell ⟨rb, 2, none⟩ (.string v.2.2)) := (((HBD.out.trans (q1.mono HBD.out.size)).setCell (p := ⟨rb, 0, none⟩) HRL.out _).setCell (p := ⟨rb, 1, none⟩) HRL.out _).setCell (p := ⟨rb, 2, none⟩) HRL.out _
    generalize ((w2.setCell ⟨rb, 0, none⟩ (.int .i64 v.1)).setCell ⟨rb, 1, none⟩ (.int .i64 v.2.1)).setCell ⟨rb, 2, none⟩ (.string v.2.2) = w9 at hr3 hb9 ⊢
    have y0 : w9.cell? ⟨rb, 0, none⟩ = some (.int .i64 v.1) := hr3.at_ 0
    have y1 : w9.cell? ⟨rb, 1, none⟩ = some (.int .i64 v.2.1) := hr3.at_ 1
    have y2 : w9.cell? ⟨rb, 2, none⟩ = some (.string v.2.2) := hr3.at_ 2
    have HZ := Veil.mk hb9
    clear hJ hD2 q1 hr hr3 hb9
    simp only [puts, setAll, List.set_cons_zero, List.set_cons_succ, List.setIfInBounds_toArray]
    go_wp2
    have hfin : Below kb w w9 := by rw [← HW0.out.2.1]; exact HZ.out
    exact bodyPost_ret (v := .tuple #[valV v, .int .i64 f, .bool ok]) (by simp [results, Tryz.results49, go_sem, y0, y1, y2]) rfl ⟨rfl, hfin⟩
end Go.Proofs.YtgdkjkfbknbgkaaGreatDoor
