/- Package heap: Own of an array. -/
import Derived.Test.YtbeapojjbgkalaaDoorMc
import Derived.Test.YtbeapojjbgkalaaDoorWe
import Derived.Test.YtbeapojjbgkalaaDoorIl
import Derived.Test.YtbeapojjbgkalaaDoorIr
namespace Go.Proofs.YtbeapojjbgkalaaDoor
open Go Go.RowKit

theorem len11 {α : Type} {us : List α} (h : us.length = 11) : ∃ a0 a1 a2 a3 a4 a5 a6 a7 a8 a9 a10, us = [a0, a1, a2, a3, a4, a5, a6, a7, a8, a9, a10] := by
  match us, h with
  | [a0, a1, a2, a3, a4, a5, a6, a7, a8, a9, a10], _ => exact ⟨a0, a1, a2, a3, a4, a5, a6, a7, a8, a9, a10, rfl⟩
theorem LPh.le {cs : List Nat} {St : Nat → (Nat → Value) → World → Prop} {d : Nat → Bool} {us : Nat → Value} {w : World} (h : LPh cs St d us w) (j c : Nat) (hc : cs[j]? = some c) (hd : d c = false) : ∃ s, s ≤ j ∧ St s (fun j => us (cs.getD j 1000000)) w := by
  obtain ⟨s, h1, h2, h3⟩ := h
  refine ⟨s, ?_, h3⟩
  rcases Nat.lt_or_ge j s with hlt | hge
  · have := (h2 j c hc).2 hlt
    rw [hd] at this
    cases this
  · exact hge
theorem resize_none {w : World} {B o : Nat} {proto : Int} (hb : Box w o 38 (objC 1 proto false (.pointer none) (.slice none 0 0))) :
    Calls Tryd.prog 67 #[.pointer (some ⟨o, 0, none⟩), .int .i64 ((0 : Nat) : Int)] w fun e w' => e = .returned (.tuple #[]) ∧ ElP w B o proto (.slice none 0 0) 0 w' := by
  have o4 : w.cell? ⟨o, 4, none⟩ = some (.slice none 0 0) := hb.at_ 4
  have o4f := hb.free 4
  have tp := Touch.put (S := fun k => k = o) (w := w) rfl 4 (.slice none 0 0)
  have HR := Veil.mk (show ElP w B o proto (.slice none 0 0) 0 (w.setCell ⟨o, 4, none⟩ (.slice none 0 0)) from ⟨.slice none 0 0, fun _ => zV, hb.put 4 (.slice none 0 0), EL.nil _ _ _, tp.mono (fun k hk => .inl hk), fun k hk => by cases hk⟩)
  rw [show ((0 : Nat) : Int) = 0 from rfl]
  clear hb tp
  go_enter Tryd.func67, Tryd.ntmps67
  go_wp2
  go_loopw [6] (fun i wr => i = .int .i64 0 ∧ wr = w.setCell ⟨o, 4, none⟩ (.slice none 0 0)) (fun _ _ => 0)
  case atStart => exact ⟨rfl, rfl⟩
  case round =>
    obtain ⟨rfl, rfl⟩ := hrel
    go_wp2
    exact bodyPost_end (results_none rfl _ _ _) rfl ⟨rfl, HR.out⟩
theorem resize_any {w : World} {B o n : Nat} {proto : Int} {ev : Value} {xs : Nat → Vt} (hb : Box w o 38 (objC 1 proto false (.pointer none) ev)) (he : EL w B ev n xs) (hB : B ≤ w.heap.size) (n' : Nat) (hn : n' ≤ 10000) :
    Calls Tryd.prog 67 #[.pointer (some ⟨o, 0, none⟩), .int .i64 (n' : Int)] w fun e w' => e = .returned (.tuple #[]) ∧ ElP w B o proto ev n' w' := by
  rcases he with ⟨rfl, rfl⟩ | ⟨g, cap, rfl, he⟩
  · by_cases h0 : n' = 0
    · subst h0
      exact resize_none hb
    · exact resize_nil hb hB n' hn (by omega)
  · by_cases h0 : n' ≤ cap
    · exact resize_fit hb he n' hn h0
    · exact resize_grow hb he hB n' hn (by omega)
theorem isLen_len {w : World} {o : Nat} {proto : Int} {cs : Bool} {pv ev : Value} (hb : Box w o 38 (objC 1 proto cs pv ev)) : Calls Tryd.prog 46 #[.pointer (some ⟨o, 0, none⟩), valV (7, 0, lenB)] w fun e w' => e = .returned (.bool true) ∧ Below w.heap.size w w' := by
  have b1 : Below w.heap.size w (w.alloc (.cells #[.int .i64 7, .int .i64 0, .string lenB] 45)) := (Below.refl _ _).alloc (Nat.le_refl _) _
  have c0 : (w.alloc (.cells #[.int .i64 7, .int .i64 0, .string lenB] 45)).cell? ⟨o, 0, none⟩ = some (.int .i64 1) := (hb.below b1).at_ 0
  clear hb
  go_enter Tryd.func46, Tryd.ntmps46
  go_wp2
  go_ret
  exact ⟨rfl, b1⟩
theorem isLen_no {w : World} {o : Nat} {proto : Int} {cs : Bool} {pv ev : Value} (hb : Box w o 38 (objC 1 proto cs pv ev)) (s : ByteArray) (hbe : (s.toList == [0, 108, 0, 101, 0, 110, 0, 103, 0, 116, 0, 104]) = false) : Calls Tryd.prog 46 #[.pointer (some ⟨o, 0, none⟩), valV (7, 0, s)] w fun e w' => e = .returned (.bool false) ∧ Below w.heap.size w w' := by
  have b1 : Below w.heap.size w (w.alloc (.cells #[.int .i64 7, .int .i64 0, .string s] 45)) := (Below.refl _ _).alloc (Nat.le_refl _) _
  have c0 : (w.alloc (.cells #[.int .i64 7, .int .i64 0, .string s] 45)).cell? ⟨o, 0, none⟩ = some (.int .i64 1) := (hb.below b1).at_ 0
  clear hb
  go_enter Tryd.func46, Tryd.ntmps46
  go_wp2
  go_ret
  exact ⟨rfl, b1⟩
theorem elem_arr {w : World} {o : Nat} {proto : Int} {cs : Bool} {pv ev : Value} (hb : Box w o 38 (objC 1 proto cs pv ev)) (s : ByteArray) (hs : s.size ≤ 16777216) (i : Int) (hi : W.idxU (W.unitsS s) = i) : Calls Tryd.prog 48 #[.pointer (some ⟨o, 0, none⟩), valV (7, 0, s)] w fun e w' => e = .returned (.int .i64 i) ∧ Below w.heap.size w w' := by
  have b1 : Below w.heap.size w (w.alloc (.cells #[.int .i64 7, .int .i64 0, .string s] 45)) := (Below.refl _ _).alloc (Nat.le_refl _) _
  have c0 : (w.alloc (.cells #[.int .i64 7, .int .i64 0, .string s] 45)).cell? ⟨o, 0, none⟩ = some (.int .i64 1) := (hb.below b1).at_ 0
  have HIX : Veil (∀ w, Calls Tryd.prog 53 #[.string s] w fun e w' => e = .returned (.int .i64 i) ∧ Below w.heap.size w w') := ⟨fun w => W.index_at s i hs (show Hid _ from hi) w⟩
  clear hb hi
  go_enter Tryd.func48, Tryd.ntmps48
  go_wp2_with (go_at_call 53; ((with_reducible refine (HIX.out _).mono ?_); rintro e w2 ⟨rfl, hb2⟩))
  go_ret
  exact ⟨rfl, blw2 b1 hb2⟩
theorem unless_open {w : World} {o : Nat} {cl proto : Int} {pv ev : Value} (hb : Box w o 38 (objC cl proto false pv ev)) (f : Int) : Calls Tryd.prog 47 #[.pointer (some ⟨o, 0, none⟩), .int .i64 f] w fun e w' => e = .returned (.int .i64 f) ∧ w' = w := by
  have c2 : w.cell? ⟨o, 2, none⟩ = some (.bool false) := hb.at_ 2
  clear hb
  go_enter Tryd.func47, Tryd.ntmps47
  go_wp2
  go_ret
  exact ⟨rfl, rfl⟩
theorem plain_7 (w : World) : Calls Tryd.prog 44 #[.int .i64 7] w fun e w' => e = .returned (.bool true) ∧ w' = w := by
  go_enter Tryd.func44, Tryd.ntmps44
  go_wp2
  go_ret
  exact ⟨rfl, rfl⟩
theorem plain_1 (w : World) : Calls Tryd.prog 44 #[.int .i64 1] w fun e w' => e = .returned (.bool true) ∧ w' = w := by
  go_enter Tryd.func44, Tryd.ntmps44
  go_wp2
  go_ret
  exact ⟨rfl, rfl⟩
def OlSt (rb : Nat) (v : Vt) (WD : World) : Nat → (Nat → Value) → World → Prop
  | 0 => fun _ w => w = WD
  | _ => fun _ w => w = ((WD.setCell ⟨rb, 0, none⟩ (.int .i64 v.1)).setCell ⟨rb, 1, none⟩ (.int .i64 v.2.1)).setCell ⟨rb, 2, none⟩ (.string v.2.2)
theorem OlSt.zero {rb : Nat} {v : Vt} {WD w : World} {s : Nat} {f : Nat → Value} (hs : s ≤ 0) (h : OlSt rb v WD s f w) : w = WD := by
  obtain rfl : s = 0 := by omega
  exact h
set_option maxHeartbeats 2000000 in
set_option maxRecDepth 100000 in
theorem own_len {w : World} {B o n : Nat} {proto : Int} {ev : Value} {xs : Nat → Vt} (hb : Box w o 38 (objC 1 proto false (.pointer none) ev)) (he : EL w B ev n xs) :
    Calls Tryd.prog 23 #[.pointer (some ⟨o, 0, none⟩), valV (7, 0, lenB)] w fun e w' => e = .returned (.tuple #[.agg #[.int .i64 3, .int .i64 (n : Int), .string ⟨#[]⟩], .int .i64 1, .bool true]) ∧ Below w.heap.size w w' := by
  have hlt := hb.lt
  have HIL : Veil (∀ W, Below w.heap.size w W → Calls Tryd.prog 46 #[.pointer (some ⟨o, 0, none⟩), valV (7, 0, lenB)] W fun e w' => e = .returned (.bool true) ∧ Below W.heap.size W w') := ⟨fun W hbw => isLen_len (hb.below hbw)⟩
  skip
  obtain ⟨kb, hkb⟩ : ∃ kb, w.heap.size = kb := ⟨_, rfl⟩
  obtain ⟨rb, hrb⟩ : ∃ rb, kb + 1 = rb := ⟨_, rfl⟩
  have b1 := (Box.new w 45 #[.int .i64 7, .int .i64 0, .string lenB]).more (.cells #[.int .i64 0, .int .i64 0, .string ⟨#[]⟩] 45)
  have b2 := Box.new (w.alloc (.cells #[.int .i64 7, .int .i64 0, .string lenB] 45)) 45 #[.int .i64 0, .int .i64 0, .string ⟨#[]⟩]
  have bb : Below w.heap.size w ((w.alloc (.cells #[.int .i64 7, .int .i64 0, .string lenB] 45)).alloc (.cells #[.int .i64 0, .int .i64 0, .string ⟨#[]⟩] 45)) := ((Below.refl _ _).alloc (Nat.le_refl _) _).alloc (by simp) _
  rw [World.size_alloc] at b2
  obtain ⟨W0, hW0⟩ : ∃ W0, ((w.alloc (.cells #[.int .i64 7, .int .i64 0, .string lenB] 45)).alloc (.cells #[.int .i64 0, .int .i64 0, .string ⟨#[]⟩] 45)) = W0 := ⟨_, rfl⟩
  rw [hW0] at b1 b2 bb
  have HW0 := Veil.mk (And.intro hW0 (And.intro hkb hrb))
  have HBO := Veil.mk (And.intro hb (And.intro bb he))
  rw [hkb] at b1 b2 ⊢
  rw [hrb] at b2
  have HB12 := Veil.mk (And.intro b1 b2)
  have x0 : W0.cell? ⟨kb, 0, none⟩ = some (.int .i64 7) := b1.at_ 0
  have x1 : W0.cell? ⟨kb, 1, none⟩ = some (.int .i64 0) := b1.at_ 1
  have x2 : W0.cell? ⟨kb, 2, none⟩ = some (.string lenB) := b1.at_ 2
  clear hb he b1 b2 bb hW0 hkb hrb hlt
  go_enter Tryd.func23, Tryd.ntmps23
  go_upto_region 1 with (fail)
  rw [HW0.out.1, HW0.out.2.1, HW0.out.2.2]
  go_upto_region 4 with (go_at_call 46; ((with_reducible refine (HIL.out _ HBO.out.2.1).mono ?_); rintro e w1 ⟨rfl, hb1⟩))
  have HBX : Veil (Below w.heap.size w w1) := ⟨blw2 HBO.out.2.1 hb1⟩
  have HKX := Veil.mk (HB12.out.2.on hb1 HB12.out.2.lt)
  obtain ⟨ao, cap, rfl⟩ : ∃ ao cap, ev = .slice ao n cap := by
    rcases HBO.out.2.2 with ⟨e1, e2⟩ | ⟨g, cap, e1, _⟩
    · exact ⟨none, 0, by rw [e1, e2]⟩
    · exact ⟨_, _, e1⟩
  clear x0 x1 x2 hb1 HB12 HIL
  obtain ⟨WD, hWD⟩ : ∃ WD, w1.drew = WD := ⟨_, rfl⟩
  have HBD : Veil (Below w.heap.size w WD) := ⟨by rw [← hWD]; exact HBX.out.drew⟩
  have HOB : Veil (Box WD o 38 (objC 1 proto false (.pointer none) (.slice ao n cap))) := ⟨HBO.out.1.below HBD.out⟩
  have HRB : Veil (Box WD rb 45 #[.int .i64 0, .int .i64 0, .string ⟨#[]⟩]) := ⟨by rw [← hWD]; exact HKX.out.drew⟩
  have HUN : Veil (∀ W, W = WD → Calls Tryd.prog 47 #[.pointer (some ⟨o, 0, none⟩), .int .i64 1] W fun e w' => e = .returned (.int .i64 1) ∧ w' = W) := ⟨fun W hw => by rw [hw]; exact unless_open HOB.out 1⟩
  have HWD := Veil.mk hWD
  have HRL : Veil (w.heap.size ≤ rb) := ⟨by have := HW0.out.2.1; have := HW0.out.2.2; omega⟩
  clear hWD HBX HKX
  refine wp_region_chain ([some (· = .pointer (some ⟨o, 0, none⟩)), some (· = .pointer (some ⟨o, 0, none⟩)), some (· = .pointer (some ⟨o, 4, none⟩)), some (· = .slice ao n cap), some (· = .int .i64 (n : Int)), some (· = .agg #[.int .i64 3, .int .i64 (n : Int), .string ⟨#[]⟩]), some (· = .pointer (some ⟨o, 0, none⟩)), some (· = .int .i64 1), none, some (· = .int .i64 1), some (· = .bool true)] : List (Option (Value → Prop))) (LPh [8] (OlSt rb (3, (n : Int), ⟨#[]⟩) WD)) [some 14, some 15, some 16, some 17, some 18, some 19, some 20, some 21, none, some 5, some 6] (curV' _ [some 14, some 15, some 16, some 17, some 18, some 19, some 20, some 21, none, some 5, some 6]) (by kernel_rfl) rfl rfl (puts_cur _ _) (LPh.start (show w1.drew = WD from HWD.out)) ?_ (by kernel_rfl) ?_
  · refine Steps.cons rfl (fun bb aa w' hbs hb0 hbp hI K hK => ?_) ?_
    · obtain ⟨us, hus, ha, hI⟩ := hI
      obtain ⟨u0, u1, u2, u3, u4, u5, u6, u7, u8, u9, u10, rfl⟩ := len11 hus
      have HI := Veil.mk hI
      clear hI
      rw [ha]
      simp only [puts, setAll, List.setIfInBounds_toArray, List.set_cons_zero, List.set_cons_succ]
      go_simp
      exact hK _ _ (chain_step HI.out hus hbs 0 _ (by show 0 < 11; decide) rfl hbp (val_of rfl rfl) (HI.out.ph.step 0 _ (by decide) (by decide)) (by simp only [puts, setAll, List.set_cons_zero, List.set_cons_succ, List.setIfInBounds_toArray]))
    refine Steps.cons rfl (fun bb aa w' hbs hb0 hbp hI K hK => ?_) ?_
    · obtain ⟨us, hus, ha, hI⟩ := hI
      obtain ⟨u0, u1, u2, u3, u4, u5, u6, u7, u8, u9, u10, rfl⟩ := len11 hus
      have e0 : u0 = .pointer (some ⟨o, 0, none⟩) := hI.val 0 _ rfl (gen_after 0 (by kernel_rfl) hbp)
      subst e0
      have HI := Veil.mk hI
      clear hI
      rw [ha]
      simp only [puts, setAll, List.setIfInBounds_toArray, List.set_cons_zero, List.set_cons_succ]
      go_simp
      exact hK _ _ (chain_step HI.out hus hbs 1 _ (by show 1 < 11; decide) rfl hbp (val_of rfl rfl) (HI.out.ph.step 1 _ (by decide) (by decide)) (by simp only [puts, setAll, List.set_cons_zero, List.set_cons_succ, List.setIfInBounds_toArray]))
    refine Steps.cons rfl (fun bb aa w' hbs hb0 hbp hI K hK => ?_) ?_
    · obtain ⟨us, hus, ha, hI⟩ := hI
      obtain ⟨u0, u1, u2, u3, u4, u5, u6, u7, u8, u9, u10, rfl⟩ := len11 hus
      have e1 : u1 = .pointer (some ⟨o, 0, none⟩) := hI.val 1 _ rfl (gen_after 1 (by kernel_rfl) hbp)
      subst e1
      have HI := Veil.mk hI
      clear hI
      rw [ha]
      simp only [puts, setAll, List.setIfInBounds_toArray, List.set_cons_zero, List.set_cons_succ]
      go_simp
      exact hK _ _ (chain_step HI.out hus hbs 2 _ (by show 2 < 11; decide) rfl hbp (val_of rfl rfl) (HI.out.ph.step 2 _ (by decide) (by decide)) (by simp only [puts, setAll, List.set_cons_zero, List.set_cons_succ, List.setIfInBounds_toArray]))
    refine Steps.cons rfl (fun bb aa w' hbs hb0 hbp hI K hK => ?_) ?_
    · obtain ⟨us, hus, ha, hI⟩ := hI
      obtain ⟨u0, u1, u2, u3, u4, u5, u6, u7, u8, u9, u10, rfl⟩ := len11 hus
      have e2 : u2 = .pointer (some ⟨o, 4, none⟩) := hI.val 2 _ rfl (gen_after 2 (by kernel_rfl) hbp)
      subst e2
      have h8 := hI.before 8 3 rfl (by kernel_rfl) hb0
      have hst := hI.ph.at_ 0 8 rfl h8 (.inl rfl)
      clear h8
      have c0 : w'.cell? ⟨o, 4, none⟩ = some (.slice ao n cap) := by rw [show w' = WD from hst]; exact HOB.out.at_ 4
      have HI := Veil.mk hI
      clear hI
      rw [ha]
      simp only [puts, setAll, List.setIfInBounds_toArray, List.set_cons_zero, List.set_cons_succ]
      go_simp
      exact hK _ _ (chain_step HI.out hus hbs 3 _ (by show 3 < 11; decide) rfl hbp (val_of rfl rfl) (HI.out.ph.step 3 _ (by decide) (by decide)) (by simp only [puts, setAll, List.set_cons_zero, List.set_cons_succ, List.setIfInBounds_toArray]))
    refine Steps.cons rfl (fun bb aa w' hbs hb0 hbp hI K hK => ?_) ?_
    · obtain ⟨us, hus, ha, hI⟩ := hI
      obtain ⟨u0, u1, u2, u3, u4, u5, u6, u7, u8, u9, u10, rfl⟩ := len11 hus
      have e3 : u3 = .slice ao n cap := hI.val 3 _ rfl (gen_after 3 (by kernel_rfl) hbp)
      subst e3
      have HI := Veil.mk hI
      clear hI
      rw [ha]
      simp only [puts, setAll, List.setIfInBounds_toArray, List.set_cons_zero, List.set_cons_succ]
      go_simp
      exact hK _ _ (chain_step HI.out hus hbs 4 _ (by show 4 < 11; decide) rfl hbp (val_of rfl rfl) (HI.out.ph.step 4 _ (by decide) (by decide)) (by simp only [puts, setAll, List.set_cons_zero, List.set_cons_succ, List.setIfInBounds_toArray]))
    refine Steps.cons rfl (fun bb aa w' hbs hb0 hbp hI K hK => ?_) ?_
    · obtain ⟨us, hus, ha, hI⟩ := hI
      obtain ⟨u0, u1, u2, u3, u4, u5, u6, u7, u8, u9, u10, rfl⟩ := len11 hus
      have e4 : u4 = .int .i64 (n : Int) := hI.val 4 _ rfl (gen_after 4 (by kernel_rfl) hbp)
      subst e4
      have HI := Veil.mk hI
      clear hI
      rw [ha]
      simp only [puts, setAll, List.setIfInBounds_toArray, List.set_cons_zero, List.set_cons_succ]
      go_simp
      exact hK _ _ (chain_step HI.out hus hbs 5 _ (by show 5 < 11; decide) rfl hbp (val_of rfl rfl) (HI.out.ph.step 5 _ (by decide) (by decide)) (by simp only [puts, setAll, List.set_cons_zero, List.set_cons_succ, List.setIfInBounds_toArray]))
    refine Steps.cons rfl (fun bb aa w' hbs hb0 hbp hI K hK => ?_) ?_
    · obtain ⟨us, hus, ha, hI⟩ := hI
      obtain ⟨u0, u1, u2, u3, u4, u5, u6, u7, u8, u9, u10, rfl⟩ := len11 hus
      have HI := Veil.mk hI
      clear hI
      rw [ha]
      simp only [puts, setAll, List.setIfInBounds_toArray, List.set_cons_zero, List.set_cons_succ]
      go_simp
      exact hK _ _ (chain_step HI.out hus hbs 6 _ (by show 6 < 11; decide) rfl hbp (val_of rfl rfl) (HI.out.ph.step 6 _ (by decide) (by decide)) (by simp only [puts, setAll, List.set_cons_zero, List.set_cons_succ, List.setIfInBounds_toArray]))
    refine Steps.cons rfl (fun bb aa w' hbs hb0 hbp hI K hK => ?_) ?_
    · obtain ⟨us, hus, ha, hI⟩ := hI
      obtain ⟨u0, u1, u2, u3, u4, u5, u6, u7, u8, u9, u10, rfl⟩ := len11 hus
      have e6 : u6 = .pointer (some ⟨o, 0, none⟩) := hI.val 6 _ rfl (gen_after 6 (by kernel_rfl) hbp)
      subst e6
      have h8 := hI.before 8 7 rfl (by kernel_rfl) hb0
      obtain ⟨sg, hsg, hstg⟩ := hI.ph.le 0 8 rfl h8
      have HUW : Veil (w' = WD) := ⟨OlSt.zero hsg hstg⟩
      have HI := Veil.mk hI
      clear hI h8
      rw [ha]
      simp only [puts, setAll, List.setIfInBounds_toArray, List.set_cons_zero, List.set_cons_succ]
      go_simp
      go_at_call 47
      refine (HUN.out w' HUW.out).mono ?_
      rintro e9 w9 ⟨rfl, h9⟩
      subst w9
      go_simp
      exact hK _ _ (chain_step HI.out hus hbs 7 _ (by show 7 < 11; decide) rfl hbp (val_of rfl rfl) (HI.out.ph.step 7 _ (by decide) (by decide)) (by simp only [puts, setAll, List.set_cons_zero, List.set_cons_succ, List.setIfInBounds_toArray]))
    refine Steps.cons rfl (fun bb aa w' hbs hb0 hbp hI K hK => ?_) ?_
    · obtain ⟨us, hus, ha, hI⟩ := hI
      obtain ⟨u0, u1, u2, u3, u4, u5, u6, u7, u8, u9, u10, rfl⟩ := len11 hus
      have e5 : u5 = .agg #[.int .i64 3, .int .i64 (n : Int), .string ⟨#[]⟩] := hI.val 5 _ rfl (gen_after 5 (by kernel_rfl) hbp)
      subst e5
      have hst := hI.ph.at_ 0 8 rfl hb0 (.inl rfl)
      have hwd : w' = WD := hst
      have HST := Veil.mk hwd
      have hrb : Box w' rb 45 #[.int .i64 0, .int .i64 0, .string ⟨#[]⟩] := by rw [hwd]; exact HRB.out
      have c0 : w'.cell? ⟨rb, 0, none⟩ = some (.int .i64 0) := hrb.at_ 0
      have c1 : w'.cell? ⟨rb, 1, none⟩ = some (.int .i64 0) := hrb.at_ 1
      have c2 : w'.cell? ⟨rb, 2, none⟩ = some (.string ⟨#[]⟩) := hrb.at_ 2
      have f0 := hrb.free 0
      have f1 := hrb.free 1
      have f2 := hrb.free 2
      clear hst hwd hrb
      have HI := Veil.mk hI
      clear hI
      rw [ha]
      simp only [puts, setAll, List.setIfInBounds_toArray, List.set_cons_zero, List.set_cons_succ]
      go_simp
      exact hK _ _ (chain_step HI.out hus hbs 8 undef (by show 8 < 11; decide) rfl hbp (none_of rfl) (HI.out.ph.next 0 8 _ rfl hb0 (.inl rfl) (by decide) (show _ = _ by rw [HST.out])) (by simp only [puts, setAll, List.set_cons_zero, List.set_cons_succ, List.setIfInBounds_toArray]))
    refine Steps.cons rfl (fun bb aa w' hbs hb0 hbp hI K hK => ?_) ?_
    · obtain ⟨us, hus, ha, hI⟩ := hI
      obtain ⟨u0, u1, u2, u3, u4, u5, u6, u7, u8, u9, u10, rfl⟩ := len11 hus
      have e7 : u7 = .int .i64 1 := hI.val 7 _ rfl (gen_after 7 (by kernel_rfl) hbp)
      subst e7
      have HI := Veil.mk hI
      clear hI
      rw [ha]
      simp only [puts, setAll, List.setIfInBounds_toArray, List.set_cons_zero, List.set_cons_succ]
      go_simp
      exact hK _ _ (chain_step HI.out hus hbs 9 _ (by show 9 < 11; decide) rfl hbp (val_of rfl rfl) (HI.out.ph.step 9 _ (by decide) (by decide)) (by simp only [puts, setAll, List.set_cons_zero, List.set_cons_succ, List.setIfInBounds_toArray]))
    refine Steps.cons rfl (fun bb aa w' hbs hb0 hbp hI K hK => ?_) ?_
    · obtain ⟨us, hus, ha, hI⟩ := hI
      obtain ⟨u0, u1, u2, u3, u4, u5, u6, u7, u8, u9, u10, rfl⟩ := len11 hus
      have HI := Veil.mk hI
      clear hI
      rw [ha]
      simp only [puts, setAll, List.setIfInBounds_toArray, List.set_cons_zero, List.set_cons_succ]
      go_simp
      exact hK _ _ (chain_step HI.out hus hbs 10 _ (by show 10 < 11; decide) rfl hbp (val_of rfl rfl) (HI.out.ph.step 10 _ (by decide) (by decide)) (by simp only [puts, setAll, List.set_cons_zero, List.set_cons_succ, List.setIfInBounds_toArray]))
    exact Steps.nil
  · intro us w9 hus dd hD2 hJ
    obtain ⟨p0, p1, p2, p3, p4, p5, p6, p7, p8, p9, p10, rfl⟩ := len11 hus
    have q1 := hJ.ph.all (fun c hc => hD2 c (by
      have : c = 8 := by simpa using hc
      show c < 11
      omega))
    replace q1 : w9 = ((WD.setCell ⟨rb, 0, none⟩ (.int .i64 (((3, (n : Int), ⟨#[]⟩) : Vt)).1)).setCell ⟨rb, 1, none⟩ (.int .i64 (((3, (n : Int), ⟨#[]⟩) : Vt)).2.1)).setCell ⟨rb, 2, none⟩ (.string (((3, (n : Int), ⟨#[]⟩) : Vt)).2.2) := q1
    have e9 : p9 = .int .i64 1 := hJ.val 9 _ rfl (hD2 9 (by show 9 < 11; decide))
    have e10 : p10 = .bool true := hJ.val 10 _ rfl (hD2 10 (by show 10 < 11; decide))
    subst e9 e10
    have hr3 := ((HRB.out.put 0 (.int .i64 (((3, (n : Int), ⟨#[]⟩) : Vt)).1)).put 1 (.int .i64 (((3, (n : Int), ⟨#[]⟩) : Vt)).2.1)).put 2 (.string (((3, (n : Int), ⟨#[]⟩) : Vt)).2.2)
    have hb9 : Below w.heap.size w (((WD.setCell ⟨rb, 0, none⟩ (.int .i64 (((3, (n : Int), ⟨#[]⟩) : Vt)).1)).setCell ⟨rb, 1, none⟩ (.int .i64 (((3, (n : Int), ⟨#[]⟩) : Vt)).2.1)).setCell ⟨rb, 2, none⟩ (.string (((3, (n : Int), ⟨#[]⟩) : Vt)).2.2)) := ((HBD.out.setCell (p := ⟨rb, 0, none⟩) HRL.out _).setCell (p := ⟨rb, 1, none⟩) HRL.out _).setCell (p := ⟨rb, 2, none⟩) HRL.out _
    rw [← q1] at hr3 hb9
    have y0 : w9.cell? ⟨rb, 0, none⟩ = some (.int .i64 (((3, (n : Int), ⟨#[]⟩) : Vt)).1) := hr3.at_ 0
    have y1 : w9.cell? ⟨rb, 1, none⟩ = some (.int .i64 (((3, (n : Int), ⟨#[]⟩) : Vt)).2.1) := hr3.at_ 1
    have y2 : w9.cell? ⟨rb, 2, none⟩ = some (.string (((3, (n : Int), ⟨#[]⟩) : Vt)).2.2) := hr3.at_ 2
    have HZ := Veil.mk hb9
    clear hJ hD2 q1 hr3 hb9
    simp only [puts, setAll, List.set_cons_zero, List.set_cons_succ, List.setIfInBounds_toArray]
    go_wp2
    have hfin : Below kb w w9 := by rw [← HW0.out.2.1]; exact HZ.out
    exact bodyPost_ret (v := .tuple #[valV (3, (n : Int), ⟨#[]⟩), .int .i64 1, .bool true]) (by simp [results, Tryd.results23, go_sem, y0, y1, y2]) rfl ⟨rfl, hfin⟩
set_option maxHeartbeats 2000000 in
set_option maxRecDepth 100000 in
theorem own_out {w : World} {B o n : Nat} {proto : Int} {ev : Value} {xs : Nat → Vt} (hb : Box w o 38 (objC 1 proto false (.pointer none) ev)) (he : EL w B ev n xs) (s : ByteArray) (hs : s.size ≤ 16777216) (hsl : (s.toList == [0, 108, 0, 101, 0, 110, 0, 103, 0, 116, 0, 104]) = false) (i : Nat) (hix : W.idxU (W.unitsS s) = (i : Int)) (hin : n ≤ i) :
    Calls Tryd.prog 23 #[.pointer (some ⟨o, 0, none⟩), valV (7, 0, s)] w fun e w' => e = .returned (.tuple #[zeroV, .int .i64 0, .bool false]) ∧ Below w.heap.size w w' := by
  have hlt := hb.lt
  have HIL : Veil (∀ W, Below w.heap.size w W → Calls Tryd.prog 46 #[.pointer (some ⟨o, 0, none⟩), valV (7, 0, s)] W fun e w' => e = .returned (.bool false) ∧ Below W.heap.size W w') := ⟨fun W hbw => isLen_no (hb.below hbw) s hsl⟩
  have HEM : Veil (∀ W, Below w.heap.size w W → Calls Tryd.prog 48 #[.pointer (some ⟨o, 0, none⟩), valV (7, 0, s)] W fun e w' => e = .returned (.int .i64 (i : Int)) ∧ Below W.heap.size W w') := ⟨fun W hbw => elem_arr (hb.below hbw) s hs _ hix⟩
  obtain ⟨kb, hkb⟩ : ∃ kb, w.heap.size = kb := ⟨_, rfl⟩
  obtain ⟨rb, hrb⟩ : ∃ rb, kb + 1 = rb := ⟨_, rfl⟩
  have b1 := (Box.new w 45 #[.int .i64 7, .int .i64 0, .string s]).more (.cells #[.int .i64 0, .int .i64 0, .string ⟨#[]⟩] 45)
  have b2 := Box.new (w.alloc (.cells #[.int .i64 7, .int .i64 0, .string s] 45)) 45 #[.int .i64 0, .int .i64 0, .string ⟨#[]⟩]
  have bb : Below w.heap.size w ((w.alloc (.cells #[.int .i64 7, .int .i64 0, .string s] 45)).alloc (.cells #[.int .i64 0, .int .i64 0, .string ⟨#[]⟩] 45)) := ((Below.refl _ _).alloc (Nat.le_refl _) _).alloc (by simp) _
  rw [World.size_alloc] at b2
  obtain ⟨W0, hW0⟩ : ∃ W0, ((w.alloc (.cells #[.int .i64 7, .int .i64 0, .string s] 45)).alloc (.cells #[.int .i64 0, .int .i64 0, .string ⟨#[]⟩] 45)) = W0 := ⟨_, rfl⟩
  rw [hW0] at b1 b2 bb
  have HW0 := Veil.mk (And.intro hW0 (And.intro hkb hrb))
  have HBO := Veil.mk (And.intro hb (And.intro bb he))
  rw [hkb] at b1 b2 ⊢
  rw [hrb] at b2
  have HB12 := Veil.mk (And.intro b1 b2)
  have x0 : W0.cell? ⟨kb, 0, none⟩ = some (.int .i64 7) := b1.at_ 0
  have x1 : W0.cell? ⟨kb, 1, none⟩ = some (.int .i64 0) := b1.at_ 1
  have x2 : W0.cell? ⟨kb, 2, none⟩ = some (.string s) := b1.at_ 2
  clear hb he b1 b2 bb hW0 hkb hrb hlt
  go_enter Tryd.func23, Tryd.ntmps23
  go_upto_region 1 with (fail)
  rw [HW0.out.1, HW0.out.2.1, HW0.out.2.2]
  obtain ⟨ao, cap, rfl⟩ : ∃ ao cap, ev = .slice ao n cap := by
    rcases HBO.out.2.2 with ⟨e1, e2⟩ | ⟨g, cap, e1, _⟩
    · exact ⟨none, 0, by rw [e1, e2]⟩
    · exact ⟨_, _, e1⟩
  go_upto_region 5 with (go_at_call 46; ((with_reducible refine (HIL.out _ HBO.out.2.1).mono ?_); rintro e w1 ⟨rfl, hb1⟩))
  have HB1 := Veil.mk (blw2 HBO.out.2.1 hb1)
  have q1 := HB12.out.1.on hb1 HB12.out.1.lt
  have HB2 := Veil.mk (HB12.out.2.on hb1 HB12.out.2.lt)
  clear x0 x1 x2
  have x0 : w1.cell? ⟨kb, 0, none⟩ = some (.int .i64 7) := q1.at_ 0
  have x1 : w1.cell? ⟨kb, 1, none⟩ = some (.int .i64 0) := q1.at_ 1
  have x2 : w1.cell? ⟨kb, 2, none⟩ = some (.string s) := q1.at_ 2
  clear hb1 q1
  go_upto_region 8 with (go_at_call 48; ((with_reducible refine (HEM.out _ HB1.out).mono ?_); rintro e w3 ⟨rfl, hb3⟩))
  have HBX : Veil (Below w.heap.size w w3) := ⟨blw2 HB1.out hb3⟩
  have HKX := Veil.mk (HB2.out.on hb3 HB2.out.lt)
  have o4 : w3.cell? ⟨o, 4, none⟩ = some (.slice ao n cap) := (HBO.out.1.below HBX.out).at_ 4
  clear x0 x1 x2 hb3 HB1 HB2 HB12 HIL HEM
  have r0 : w3.cell? ⟨rb, 0, none⟩ = some (.int .i64 0) := HKX.out.at_ 0
  have r1 : w3.cell? ⟨rb, 1, none⟩ = some (.int .i64 0) := HKX.out.at_ 1
  have r2 : w3.cell? ⟨rb, 2, none⟩ = some (.string ⟨#[]⟩) := HKX.out.at_ 2
  have g0 := HKX.out.free 0
  have g1 := HKX.out.free 1
  have g2 := HKX.out.free 2
  have hi0 : ¬ (i : Int) < 0 := by omega
  have hin' : (n : Int) ≤ (i : Int) := by omega
  go_wp2
  have hb9 : Below w.heap.size w (((w3.setCell ⟨rb, 0, none⟩ (.int .i64 0)).setCell ⟨rb, 1, none⟩ (.int .i64 0)).setCell ⟨rb, 2, none⟩ (.string ⟨#[]⟩)) := ((HBX.out.setCell (p := ⟨rb, 0, none⟩) (by have := HW0.out.2.1; have := HW0.out.2.2; show w.heap.size ≤ rb; omega) _).setCell (p := ⟨rb, 1, none⟩) (by have := HW0.out.2.1; have := HW0.out.2.2; show w.heap.size ≤ rb; omega) _).setCell (p := ⟨rb, 2, none⟩) (by have := HW0.out.2.1; have := HW0.out.2.2; show w.heap.size ≤ rb; omega) _
  have hr3 := ((HKX.out.put 0 (.int .i64 0)).put 1 (.int .i64 0)).put 2 (.string ⟨#[]⟩)
  generalize ((w3.setCell ⟨rb, 0, none⟩ (.int .i64 0)).setCell ⟨rb, 1, none⟩ (.int .i64 0)).setCell ⟨rb, 2, none⟩ (.string ⟨#[]⟩) = w9 at hr3 hb9 ⊢
  have y0 : w9.cell? ⟨rb, 0, none⟩ = some (.int .i64 0) := hr3.at_ 0
  have y1 : w9.cell? ⟨rb, 1, none⟩ = some (.int .i64 0) := hr3.at_ 1
  have y2 : w9.cell? ⟨rb, 2, none⟩ = some (.string ⟨#[]⟩) := hr3.at_ 2
  have hfin : Below kb w w9 := by rw [← HW0.out.2.1]; exact hb9
  exact bodyPost_ret (v := .tuple #[zeroV, .int .i64 0, .bool false]) (by simp [results, Tryd.results23, go_sem, y0, y1, y2]) rfl ⟨rfl, hfin⟩
set_option maxHeartbeats 2000000 in
set_option maxRecDepth 100000 in
theorem own_hole {w : World} {B o n : Nat} {proto : Int} {ev : Value} {xs : Nat → Vt} (hb : Box w o 38 (objC 1 proto false (.pointer none) ev)) (he : EL w B ev n xs) (s : ByteArray) (hs : s.size ≤ 16777216) (hsl : (s.toList == [0, 108, 0, 101, 0, 110, 0, 103, 0, 116, 0, 104]) = false) (i : Nat) (hix : W.idxU (W.unitsS s) = (i : Int)) (hin : i < n) (hx : (xs i).1 = 10) :
    Calls Tryd.prog 23 #[.pointer (some ⟨o, 0, none⟩), valV (7, 0, s)] w fun e w' => e = .returned (.tuple #[zeroV, .int .i64 0, .bool false]) ∧ Below w.heap.size w w' := by
  have hlt := hb.lt
  have HIL : Veil (∀ W, Below w.heap.size w W → Calls Tryd.prog 46 #[.pointer (some ⟨o, 0, none⟩), valV (7, 0, s)] W fun e w' => e = .returned (.bool false) ∧ Below W.heap.size W w') := ⟨fun W hbw => isLen_no (hb.below hbw) s hsl⟩
  have HEM : Veil (∀ W, Below w.heap.size w W → Calls Tryd.prog 48 #[.pointer (some ⟨o, 0, none⟩), valV (7, 0, s)] W fun e w' => e = .returned (.int .i64 (i : Int)) ∧ Below W.heap.size W w') := ⟨fun W hbw => elem_arr (hb.below hbw) s hs _ hix⟩
  obtain ⟨kb, hkb⟩ : ∃ kb, w.heap.size = kb := ⟨_, rfl⟩
  obtain ⟨rb, hrb⟩ : ∃ rb, kb + 1 = rb := ⟨_, rfl⟩
  have b1 := (Box.new w 45 #[.int .i64 7, .int .i64 0, .string s]).more (.cells #[.int .i64 0, .int .i64 0, .string ⟨#[]⟩] 45)
  have b2 := Box.new (w.alloc (.cells #[.int .i64 7, .int .i64 0, .string s] 45)) 45 #[.int .i64 0, .int .i64 0, .string ⟨#[]⟩]
  have bb : Below w.heap.size w ((w.alloc (.cells #[.int .i64 7, .int .i64 0, .string s] 45)).alloc (.cells #[.int .i64 0, .int .i64 0, .string ⟨#[]⟩] 45)) := ((Below.refl _ _).alloc (Nat.le_refl _) _).alloc (by simp) _
  rw [World.size_alloc] at b2
  obtain ⟨W0, hW0⟩ : ∃ W0, ((w.alloc (.cells #[.int .i64 7, .int .i64 0, .string s] 45)).alloc (.cells #[.int .i64 0, .int .i64 0, .string ⟨#[]⟩] 45)) = W0 := ⟨_, rfl⟩
  rw [hW0] at b1 b2 bb
  have HW0 := Veil.mk (And.intro hW0 (And.intro hkb hrb))
  have HBO := Veil.mk (And.intro hb (And.intro bb he))
  rw [hkb] at b1 b2 ⊢
  rw [hrb] at b2
  have HB12 := Veil.mk (And.intro b1 b2)
  have x0 : W0.cell? ⟨kb, 0, none⟩ = some (.int .i64 7) := b1.at_ 0
  have x1 : W0.cell? ⟨kb, 1, none⟩ = some (.int .i64 0) := b1.at_ 1
  have x2 : W0.cell? ⟨kb, 2, none⟩ = some (.string s) := b1.at_ 2
  clear hb he b1 b2 bb hW0 hkb hrb hlt
  go_enter Tryd.func23, Tryd.ntmps23
  go_upto_region 1 with (fail)
  rw [HW0.out.1, HW0.out.2.1, HW0.out.2.2]
  obtain ⟨ao, cap, rfl⟩ : ∃ ao cap, ev = .slice ao n cap := by
    rcases HBO.out.2.2 with ⟨e1, e2⟩ | ⟨g, cap, e1, _⟩
    · exact ⟨none, 0, by rw [e1, e2]⟩
    · exact ⟨_, _, e1⟩
  go_upto_region 5 with (go_at_call 46; ((with_reducible refine (HIL.out _ HBO.out.2.1).mono ?_); rintro e w1 ⟨rfl, hb1⟩))
  have HB1 := Veil.mk (blw2 HBO.out.2.1 hb1)
  have q1 := HB12.out.1.on hb1 HB12.out.1.lt
  have HB2 := Veil.mk (HB12.out.2.on hb1 HB12.out.2.lt)
  clear x0 x1 x2
  have x0 : w1.cell? ⟨kb, 0, none⟩ = some (.int .i64 7) := q1.at_ 0
  have x1 : w1.cell? ⟨kb, 1, none⟩ = some (.int .i64 0) := q1.at_ 1
  have x2 : w1.cell? ⟨kb, 2, none⟩ = some (.string s) := q1.at_ 2
  clear hb1 q1
  go_upto_region 8 with (go_at_call 48; ((with_reducible refine (HEM.out _ HB1.out).mono ?_); rintro e w3 ⟨rfl, hb3⟩))
  have HBX : Veil (Below w.heap.size w w3) := ⟨blw2 HB1.out hb3⟩
  have HKX := Veil.mk (HB2.out.on hb3 HB2.out.lt)
  have o4 : w3.cell? ⟨o, 4, none⟩ = some (.slice ao n cap) := (HBO.out.1.below HBX.out).at_ 4
  clear x0 x1 x2 hb3 HB1 HB2 HB12 HIL HEM
  have r0 : w3.cell? ⟨rb, 0, none⟩ = some (.int .i64 0) := HKX.out.at_ 0
  have r1 : w3.cell? ⟨rb, 1, none⟩ = some (.int .i64 0) := HKX.out.at_ 1
  have r2 : w3.cell? ⟨rb, 2, none⟩ = some (.string ⟨#[]⟩) := HKX.out.at_ 2
  have g0 := HKX.out.free 0
  have g1 := HKX.out.free 1
  have g2 := HKX.out.free 2
  have hi0 : ¬ (i : Int) < 0 := by omega
  have hi00 : (0 : Int) ≤ (i : Int) := by omega
  have hin' : ¬ (n : Int) ≤ (i : Int) := by omega
  have hin2 : (i : Int) < (n : Int) := by omega
  obtain ⟨g, rfl, c0⟩ : ∃ g, ao = some ⟨g, 0, none⟩ ∧ w3.cell? ⟨g, i * 3, none⟩ = some (.int .i64 10) := by
    rcases HBO.out.2.2 with ⟨e1, e2⟩ | ⟨g, cap', e1, he⟩
    · omega
    · injection e1 with e1 _ e3
      refine ⟨g, e1, ?_⟩
      have h0 := ((he.on HBX.out).cell i (by have := he.le; omega)).1
      rw [hx] at h0
      exact h0
  go_wp2
  have hb9 : Below w.heap.size w (((w3.setCell ⟨rb, 0, none⟩ (.int .i64 0)).setCell ⟨rb, 1, none⟩ (.int .i64 0)).setCell ⟨rb, 2, none⟩ (.string ⟨#[]⟩)) := ((HBX.out.setCell (p := ⟨rb, 0, none⟩) (by have := HW0.out.2.1; have := HW0.out.2.2; show w.heap.size ≤ rb; omega) _).setCell (p := ⟨rb, 1, none⟩) (by have := HW0.out.2.1; have := HW0.out.2.2; show w.heap.size ≤ rb; omega) _).setCell (p := ⟨rb, 2, none⟩) (by have := HW0.out.2.1; have := HW0.out.2.2; show w.heap.size ≤ rb; omega) _
  have hr3 := ((HKX.out.put 0 (.int .i64 0)).put 1 (.int .i64 0)).put 2 (.string ⟨#[]⟩)
  generalize ((w3.setCell ⟨rb, 0, none⟩ (.int .i64 0)).setCell ⟨rb, 1, none⟩ (.int .i64 0)).setCell ⟨rb, 2, none⟩ (.string ⟨#[]⟩) = w9 at hr3 hb9 ⊢
  have y0 : w9.cell? ⟨rb, 0, none⟩ = some (.int .i64 0) := hr3.at_ 0
  have y1 : w9.cell? ⟨rb, 1, none⟩ = some (.int .i64 0) := hr3.at_ 1
  have y2 : w9.cell? ⟨rb, 2, none⟩ = some (.string ⟨#[]⟩) := hr3.at_ 2
  have hfin : Below kb w w9 := by rw [← HW0.out.2.1]; exact hb9
  exact bodyPost_ret (v := .tuple #[zeroV, .int .i64 0, .bool false]) (by simp [results, Tryd.results23, go_sem, y0, y1, y2]) rfl ⟨rfl, hfin⟩
set_option maxHeartbeats 2000000 in
set_option maxRecDepth 100000 in
theorem own_el {w : World} {B o n : Nat} {proto : Int} {ev : Value} {xs : Nat → Vt} (hb : Box w o 38 (objC 1 proto false (.pointer none) ev)) (he : EL w B ev n xs) (s : ByteArray) (hs : s.size ≤ 16777216) (hsl : (s.toList == [0, 108, 0, 101, 0, 110, 0, 103, 0, 116, 0, 104]) = false) (i : Nat) (hix : W.idxU (W.unitsS s) = (i : Int)) (hin : i < n) (hx : (xs i).1 ≠ 10) :
    Calls Tryd.prog 23 #[.pointer (some ⟨o, 0, none⟩), valV (7, 0, s)] w fun e w' => e = .returned (.tuple #[valV (xs i), .int .i64 7, .bool true]) ∧ Below w.heap.size w w' := by
  have hlt := hb.lt
  have HIL : Veil (∀ W, Below w.heap.size w W → Calls Tryd.prog 46 #[.pointer (some ⟨o, 0, none⟩), valV (7, 0, s)] W fun e w' => e = .returned (.bool false) ∧ Below W.heap.size W w') := ⟨fun W hbw => isLen_no (hb.below hbw) s hsl⟩
  have HEM : Veil (∀ W, Below w.heap.size w W → Calls Tryd.prog 48 #[.pointer (some ⟨o, 0, none⟩), valV (7, 0, s)] W fun e w' => e = .returned (.int .i64 (i : Int)) ∧ Below W.heap.size W w') := ⟨fun W hbw => elem_arr (hb.below hbw) s hs _ hix⟩
  obtain ⟨kb, hkb⟩ : ∃ kb, w.heap.size = kb := ⟨_, rfl⟩
  obtain ⟨rb, hrb⟩ : ∃ rb, kb + 1 = rb := ⟨_, rfl⟩
  have b1 := (Box.new w 45 #[.int .i64 7, .int .i64 0, .string s]).more (.cells #[.int .i64 0, .int .i64 0, .string ⟨#[]⟩] 45)
  have b2 := Box.new (w.alloc (.cells #[.int .i64 7, .int .i64 0, .string s] 45)) 45 #[.int .i64 0, .int .i64 0, .string ⟨#[]⟩]
  have bb : Below w.heap.size w ((w.alloc (.cells #[.int .i64 7, .int .i64 0, .string s] 45)).alloc (.cells #[.int .i64 0, .int .i64 0, .string ⟨#[]⟩] 45)) := ((Below.refl _ _).alloc (Nat.le_refl _) _).alloc (by simp) _
  rw [World.size_alloc] at b2
  obtain ⟨W0, hW0⟩ : ∃ W0, ((w.alloc (.cells #[.int .i64 7, .int .i64 0, .string s] 45)).alloc (.cells #[.int .i64 0, .int .i64 0, .string ⟨#[]⟩] 45)) = W0 := ⟨_, rfl⟩
  rw [hW0] at b1 b2 bb
  have HW0 := Veil.mk (And.intro hW0 (And.intro hkb hrb))
  have HBO := Veil.mk (And.intro hb (And.intro bb he))
  rw [hkb] at b1 b2 ⊢
  rw [hrb] at b2
  have HB12 := Veil.mk (And.intro b1 b2)
  have x0 : W0.cell? ⟨kb, 0, none⟩ = some (.int .i64 7) := b1.at_ 0
  have x1 : W0.cell? ⟨kb, 1, none⟩ = some (.int .i64 0) := b1.at_ 1
  have x2 : W0.cell? ⟨kb, 2, none⟩ = some (.string s) := b1.at_ 2
  clear hb he b1 b2 bb hW0 hkb hrb hlt
  go_enter Tryd.func23, Tryd.ntmps23
  go_upto_region 1 with (fail)
  rw [HW0.out.1, HW0.out.2.1, HW0.out.2.2]
  obtain ⟨g, cap, rfl, hel0⟩ : ∃ g cap, ev = .slice (some ⟨g, 0, none⟩) n cap ∧ ELg w B g n cap xs := by
    rcases HBO.out.2.2 with ⟨e1, e2⟩ | ⟨g, cap', e1, he⟩
    · omega
    · exact ⟨g, cap', e1, he⟩
  have HE0 := Veil.mk hel0
  clear hel0
  go_upto_region 5 with (go_at_call 46; ((with_reducible refine (HIL.out _ HBO.out.2.1).mono ?_); rintro e w1 ⟨rfl, hb1⟩))
  have HB1 := Veil.mk (blw2 HBO.out.2.1 hb1)
  have q1 := HB12.out.1.on hb1 HB12.out.1.lt
  have HB2 := Veil.mk (HB12.out.2.on hb1 HB12.out.2.lt)
  clear x0 x1 x2
  have x0 : w1.cell? ⟨kb, 0, none⟩ = some (.int .i64 7) := q1.at_ 0
  have x1 : w1.cell? ⟨kb, 1, none⟩ = some (.int .i64 0) := q1.at_ 1
  have x2 : w1.cell? ⟨kb, 2, none⟩ = some (.string s) := q1.at_ 2
  clear hb1 q1
  go_upto_region 8 with (go_at_call 48; ((with_reducible refine (HEM.out _ HB1.out).mono ?_); rintro e w3 ⟨rfl, hb3⟩))
  have HBX : Veil (Below w.heap.size w w3) := ⟨blw2 HB1.out hb3⟩
  have HKX := Veil.mk (HB2.out.on hb3 HB2.out.lt)
  have o4 : w3.cell? ⟨o, 4, none⟩ = some (.slice (some ⟨g, 0, none⟩) n cap) := (HBO.out.1.below HBX.out).at_ 4
  clear x0 x1 x2 hb3 HB1 HB2 HB12 HIL HEM
  have hi0 : ¬ (i : Int) < 0 := by omega
  have hi00 : (0 : Int) ≤ (i : Int) := by omega
  have hin' : ¬ (n : Int) ≤ (i : Int) := by omega
  have hin2 : (i : Int) < (n : Int) := by omega
  have HIC : Veil (i < cap) := ⟨by have := HE0.out.le; omega⟩
  have c0 := ((HE0.out.on HBX.out).cell i HIC.out).1
  have hx' : ((xs i).1 == 10) = false := beq_eq_false_iff_ne.2 hx
  go_upto_region 10 with (fail)
  clear c0 o4 hx' hx hi0 hin'
  have HEL0 := Veil.mk (HE0.out.on HBX.out)
  obtain ⟨WD, hWD⟩ : ∃ WD, w3.drew = WD := ⟨_, rfl⟩
  have HBD : Veil (Below w.heap.size w WD) := ⟨by rw [← hWD]; exact HBX.out.drew⟩
  have HOB : Veil (Box WD o 38 (objC 1 proto false (.pointer none) (.slice (some ⟨g, 0, none⟩) n cap))) := ⟨HBO.out.1.below HBD.out⟩
  have HRB : Veil (Box WD rb 45 #[.int .i64 0, .int .i64 0, .string ⟨#[]⟩]) := ⟨by rw [← hWD]; exact HKX.out.drew⟩
  have HEL : Veil (ELg WD B g n cap xs) := ⟨by rw [← hWD]; exact HEL0.out.on (Below.refl _ _).drew⟩
  have HUN : Veil (∀ W, W = WD → Calls Tryd.prog 47 #[.pointer (some ⟨o, 0, none⟩), .int .i64 7] W fun e w' => e = .returned (.int .i64 7) ∧ w' = W) := ⟨fun W hw => by rw [hw]; exact unless_open HOB.out 7⟩
  have HWD := Veil.mk hWD
  have HRL : Veil (w.heap.size ≤ rb) := ⟨by have := HW0.out.2.1; have := HW0.out.2.2; omega⟩
  clear hWD HBX HKX
  refine wp_region_chain ([some (· = .pointer (some ⟨o, 0, none⟩)), some (· = .pointer (some ⟨o, 0, none⟩)), some (· = .pointer (some ⟨o, 4, none⟩)), some (· = .slice (some ⟨g, 0, none⟩) n cap), some (· = .int .i64 (i : Int)), some (· = .pointer (some ⟨g, i * 3, none⟩)), some (· = valV (xs i)), some (· = .pointer (some ⟨o, 0, none⟩)), some (· = .int .i64 7), none, some (· = .int .i64 7), some (· = .bool true)] : List (Option (Value → Prop))) (LPh [9] (OlSt rb (xs i) WD)) [some 55, some 56, some 57, some 58, some 59, some 60, some 61, some 62, some 63, none, some 5, some 6] (curV' _ [some 55, some 56, some 57, some 58, some 59, some 60, some 61, some 62, some 63, none, some 5, some 6]) (by kernel_rfl) rfl rfl (puts_cur _ _) (LPh.start (show w3.drew = WD from HWD.out)) ?_ (by kernel_rfl) ?_
  · refine Steps.cons rfl (fun bb aa w' hbs hb0 hbp hI K hK => ?_) ?_
    · obtain ⟨us, hus, ha, hI⟩ := hI
      obtain ⟨u0, u1, u2, u3, u4, u5, u6, u7, u8, u9, u10, u11, rfl⟩ := len12 hus
      have HI := Veil.mk hI
      clear hI
      rw [ha]
      simp only [puts, setAll, List.setIfInBounds_toArray, List.set_cons_zero, List.set_cons_succ]
      go_simp
      exact hK _ _ (chain_step HI.out hus hbs 0 _ (by show 0 < 12; decide) rfl hbp (val_of rfl rfl) (HI.out.ph.step 0 _ (by decide) (by decide)) (by simp only [puts, setAll, List.set_cons_zero, List.set_cons_succ, List.setIfInBounds_toArray]))
    refine Steps.cons rfl (fun bb aa w' hbs hb0 hbp hI K hK => ?_) ?_
    · obtain ⟨us, hus, ha, hI⟩ := hI
      obtain ⟨u0, u1, u2, u3, u4, u5, u6, u7, u8, u9, u10, u11, rfl⟩ := len12 hus
      have e0 : u0 = .pointer (some ⟨o, 0, none⟩) := hI.val 0 _ rfl (gen_after 0 (by kernel_rfl) hbp)
      subst e0
      have HI := Veil.mk hI
      clear hI
      rw [ha]
      simp only [puts, setAll, List.setIfInBounds_toArray, List.set_cons_zero, List.set_cons_succ]
      go_simp
      exact hK _ _ (chain_step HI.out hus hbs 1 _ (by show 1 < 12; decide) rfl hbp (val_of rfl rfl) (HI.out.ph.step 1 _ (by decide) (by decide)) (by simp only [puts, setAll, List.set_cons_zero, List.set_cons_succ, List.setIfInBounds_toArray]))
    refine Steps.cons rfl (fun bb aa w' hbs hb0 hbp hI K hK => ?_) ?_
    · obtain ⟨us, hus, ha, hI⟩ := hI
      obtain ⟨u0, u1, u2, u3, u4, u5, u6, u7, u8, u9, u10, u11, rfl⟩ := len12 hus
      have e1 : u1 = .pointer (some ⟨o, 0, none⟩) := hI.val 1 _ rfl (gen_after 1 (by kernel_rfl) hbp)
      subst e1
      have HI := Veil.mk hI
      clear hI
      rw [ha]
      simp only [puts, setAll, List.setIfInBounds_toArray, List.set_cons_zero, List.set_cons_succ]
      go_simp
      exact hK _ _ (chain_step HI.out hus hbs 2 _ (by show 2 < 12; decide) rfl hbp (val_of rfl rfl) (HI.out.ph.step 2 _ (by decide) (by decide)) (by simp only [puts, setAll, List.set_cons_zero, List.set_cons_succ, List.setIfInBounds_toArray]))
    refine Steps.cons rfl (fun bb aa w' hbs hb0 hbp hI K hK => ?_) ?_
    · obtain ⟨us, hus, ha, hI⟩ := hI
      obtain ⟨u0, u1, u2, u3, u4, u5, u6, u7, u8, u9, u10, u11, rfl⟩ := len12 hus
      have e2 : u2 = .pointer (some ⟨o, 4, none⟩) := hI.val 2 _ rfl (gen_after 2 (by kernel_rfl) hbp)
      subst e2
      have h9 := hI.before 9 3 rfl (by kernel_rfl) hb0
      have hst := hI.ph.at_ 0 9 rfl h9 (.inl rfl)
      clear h9
      have c0 : w'.cell? ⟨o, 4, none⟩ = some (.slice (some ⟨g, 0, none⟩) n cap) := by rw [show w' = WD from hst]; exact HOB.out.at_ 4
      have HI := Veil.mk hI
      clear hI
      rw [ha]
      simp only [puts, setAll, List.setIfInBounds_toArray, List.set_cons_zero, List.set_cons_succ]
      go_simp
      exact hK _ _ (chain_step HI.out hus hbs 3 _ (by show 3 < 12; decide) rfl hbp (val_of rfl rfl) (HI.out.ph.step 3 _ (by decide) (by decide)) (by simp only [puts, setAll, List.set_cons_zero, List.set_cons_succ, List.setIfInBounds_toArray]))
    refine Steps.cons rfl (fun bb aa w' hbs hb0 hbp hI K hK => ?_) ?_
    · obtain ⟨us, hus, ha, hI⟩ := hI
      obtain ⟨u0, u1, u2, u3, u4, u5, u6, u7, u8, u9, u10, u11, rfl⟩ := len12 hus
      have HI := Veil.mk hI
      clear hI
      rw [ha]
      simp only [puts, setAll, List.setIfInBounds_toArray, List.set_cons_zero, List.set_cons_succ]
      go_simp
      exact hK _ _ (chain_step HI.out hus hbs 4 _ (by show 4 < 12; decide) rfl hbp (val_of rfl rfl) (HI.out.ph.step 4 _ (by decide) (by decide)) (by simp only [puts, setAll, List.set_cons_zero, List.set_cons_succ, List.setIfInBounds_toArray]))
    refine Steps.cons rfl (fun bb aa w' hbs hb0 hbp hI K hK => ?_) ?_
    · obtain ⟨us, hus, ha, hI⟩ := hI
      obtain ⟨u0, u1, u2, u3, u4, u5, u6, u7, u8, u9, u10, u11, rfl⟩ := len12 hus
      have e3 : u3 = .slice (some ⟨g, 0, none⟩) n cap := hI.val 3 _ rfl (gen_after 3 (by kernel_rfl) hbp)
      subst e3
      have e4 : u4 = .int .i64 (i : Int) := hI.val 4 _ rfl (gen_after 4 (by kernel_rfl) hbp)
      subst e4
      have HI := Veil.mk hI
      clear hI
      rw [ha]
      simp only [puts, setAll, List.setIfInBounds_toArray, List.set_cons_zero, List.set_cons_succ]
      go_simp
      exact hK _ _ (chain_step HI.out hus hbs 5 _ (by show 5 < 12; decide) rfl hbp (val_of rfl rfl) (HI.out.ph.step 5 _ (by decide) (by decide)) (by simp only [puts, setAll, List.set_cons_zero, List.set_cons_succ, List.setIfInBounds_toArray]))
    refine Steps.cons rfl (fun bb aa w' hbs hb0 hbp hI K hK => ?_) ?_
    · obtain ⟨us, hus, ha, hI⟩ := hI
      obtain ⟨u0, u1, u2, u3, u4, u5, u6, u7, u8, u9, u10, u11, rfl⟩ := len12 hus
      have e5 : u5 = .pointer (some ⟨g, i * 3, none⟩) := hI.val 5 _ rfl (gen_after 5 (by kernel_rfl) hbp)
      subst e5
      have h9 := hI.before 9 6 rfl (by kernel_rfl) hb0
      have hst := hI.ph.at_ 0 9 rfl h9 (.inl rfl)
      clear h9
      obtain ⟨c0, c1, c2⟩ := HEL.out.cell i HIC.out
      rw [← show w' = WD from hst] at c0 c1 c2
      have HI := Veil.mk hI
      clear hI
      rw [ha]
      simp only [puts, setAll, List.setIfInBounds_toArray, List.set_cons_zero, List.set_cons_succ]
      go_simp
      exact hK _ _ (chain_step HI.out hus hbs 6 _ (by show 6 < 12; decide) rfl hbp (val_of rfl rfl) (HI.out.ph.step 6 _ (by decide) (by decide)) (by simp only [puts, setAll, List.set_cons_zero, List.set_cons_succ, List.setIfInBounds_toArray]))
    refine Steps.cons rfl (fun bb aa w' hbs hb0 hbp hI K hK => ?_) ?_
    · obtain ⟨us, hus, ha, hI⟩ := hI
      obtain ⟨u0, u1, u2, u3, u4, u5, u6, u7, u8, u9, u10, u11, rfl⟩ := len12 hus
      have HI := Veil.mk hI
      clear hI
      rw [ha]
      simp only [puts, setAll, List.setIfInBounds_toArray, List.set_cons_zero, List.set_cons_succ]
      go_simp
      exact hK _ _ (chain_step HI.out hus hbs 7 _ (by show 7 < 12; decide) rfl hbp (val_of rfl rfl) (HI.out.ph.step 7 _ (by decide) (by decide)) (by simp only [puts, setAll, List.set_cons_zero, List.set_cons_succ, List.setIfInBounds_toArray]))
    refine Steps.cons rfl (fun bb aa w' hbs hb0 hbp hI K hK => ?_) ?_
    · obtain ⟨us, hus, ha, hI⟩ := hI
      obtain ⟨u0, u1, u2, u3, u4, u5, u6, u7, u8, u9, u10, u11, rfl⟩ := len12 hus
      have e7 : u7 = .pointer (some ⟨o, 0, none⟩) := hI.val 7 _ rfl (gen_after 7 (by kernel_rfl) hbp)
      subst e7
      have h9 := hI.before 9 8 rfl (by kernel_rfl) hb0
      obtain ⟨sg, hsg, hstg⟩ := hI.ph.le 0 9 rfl h9
      have HUW : Veil (w' = WD) := ⟨OlSt.zero hsg hstg⟩
      have HI := Veil.mk hI
      clear hI h9
      rw [ha]
      simp only [puts, setAll, List.setIfInBounds_toArray, List.set_cons_zero, List.set_cons_succ]
      go_simp
      go_at_call 47
      refine (HUN.out w' HUW.out).mono ?_
      rintro e9 w9 ⟨rfl, h9⟩
      subst w9
      go_simp
      exact hK _ _ (chain_step HI.out hus hbs 8 _ (by show 8 < 12; decide) rfl hbp (val_of rfl rfl) (HI.out.ph.step 8 _ (by decide) (by decide)) (by simp only [puts, setAll, List.set_cons_zero, List.set_cons_succ, List.setIfInBounds_toArray]))
    refine Steps.cons rfl (fun bb aa w' hbs hb0 hbp hI K hK => ?_) ?_
    · obtain ⟨us, hus, ha, hI⟩ := hI
      obtain ⟨u0, u1, u2, u3, u4, u5, u6, u7, u8, u9, u10, u11, rfl⟩ := len12 hus
      have e6 : u6 = valV (xs i) := hI.val 6 _ rfl (gen_after 6 (by kernel_rfl) hbp)
      subst e6
      have hst := hI.ph.at_ 0 9 rfl hb0 (.inl rfl)
      have hwd : w' = WD := hst
      have HST := Veil.mk hwd
      have hrb : Box w' rb 45 #[.int .i64 0, .int .i64 0, .string ⟨#[]⟩] := by rw [hwd]; exact HRB.out
      have c0 : w'.cell? ⟨rb, 0, none⟩ = some (.int .i64 0) := hrb.at_ 0
      have c1 : w'.cell? ⟨rb, 1, none⟩ = some (.int .i64 0) := hrb.at_ 1
      have c2 : w'.cell? ⟨rb, 2, none⟩ = some (.string ⟨#[]⟩) := hrb.at_ 2
      have f0 := hrb.free 0
      have f1 := hrb.free 1
      have f2 := hrb.free 2
      clear hst hwd hrb
      have HI := Veil.mk hI
      clear hI
      rw [ha]
      simp only [puts, setAll, List.setIfInBounds_toArray, List.set_cons_zero, List.set_cons_succ]
      go_simp
      exact hK _ _ (chain_step HI.out hus hbs 9 undef (by show 9 < 12; decide) rfl hbp (none_of rfl) (HI.out.ph.next 0 9 _ rfl hb0 (.inl rfl) (by decide) (show _ = _ by rw [HST.out])) (by simp only [puts, setAll, List.set_cons_zero, List.set_cons_succ, List.setIfInBounds_toArray]))
    refine Steps.cons rfl (fun bb aa w' hbs hb0 hbp hI K hK => ?_) ?_
    · obtain ⟨us, hus, ha, hI⟩ := hI
      obtain ⟨u0, u1, u2, u3, u4, u5, u6, u7, u8, u9, u10, u11, rfl⟩ := len12 hus
      have e8 : u8 = .int .i64 7 := hI.val 8 _ rfl (gen_after 8 (by kernel_rfl) hbp)
      subst e8
      have HI := Veil.mk hI
      clear hI
      rw [ha]
      simp only [puts, setAll, List.setIfInBounds_toArray, List.set_cons_zero, List.set_cons_succ]
      go_simp
      exact hK _ _ (chain_step HI.out hus hbs 10 _ (by show 10 < 12; decide) rfl hbp (val_of rfl rfl) (HI.out.ph.step 10 _ (by decide) (by decide)) (by simp only [puts, setAll, List.set_cons_zero, List.set_cons_succ, List.setIfInBounds_toArray]))
    refine Steps.cons rfl (fun bb aa w' hbs hb0 hbp hI K hK => ?_) ?_
    · obtain ⟨us, hus, ha, hI⟩ := hI
      obtain ⟨u0, u1, u2, u3, u4, u5, u6, u7, u8, u9, u10, u11, rfl⟩ := len12 hus
      have HI := Veil.mk hI
      clear hI
      rw [ha]
      simp only [puts, setAll, List.setIfInBounds_toArray, List.set_cons_zero, List.set_cons_succ]
      go_simp
      exact hK _ _ (chain_step HI.out hus hbs 11 _ (by show 11 < 12; decide) rfl hbp (val_of rfl rfl) (HI.out.ph.step 11 _ (by decide) (by decide)) (by simp only [puts, setAll, List.set_cons_zero, List.set_cons_succ, List.setIfInBounds_toArray]))
    exact Steps.nil
  · intro us w9 hus dd hD2 hJ
    obtain ⟨p0, p1, p2, p3, p4, p5, p6, p7, p8, p9, p10, p11, rfl⟩ := len12 hus
    have q1 := hJ.ph.all (fun c hc => hD2 c (by
      have : c = 9 := by simpa using hc
      show c < 12
      omega))
    replace q1 : w9 = ((WD.setCell ⟨rb, 0, none⟩ (.int .i64 (((xs i) : Vt)).1)).setCell ⟨rb, 1, none⟩ (.int .i64 (((xs i) : Vt)).2.1)).setCell ⟨rb, 2, none⟩ (.string (((xs i) : Vt)).2.2) := q1
    have e10 : p10 = .int .i64 7 := hJ.val 10 _ rfl (hD2 10 (by show 10 < 12; decide))
    have e11 : p11 = .bool true := hJ.val 11 _ rfl (hD2 11 (by show 11 < 12; decide))
    subst e10 e11
    have hr3 := ((HRB.out.put 0 (.int .i64 (((xs i) : Vt)).1)).put 1 (.int .i64 (((xs i) : Vt)).2.1)).put 2 (.string (((xs i) : Vt)).2.2)
    have hb9 : Below w.heap.size w (((WD.setCell ⟨rb, 0, none⟩ (.int .i64 (((xs i) : Vt)).1)).setCell ⟨rb, 1, none⟩ (.int .i64 (((xs i) : Vt)).2.1)).setCell ⟨rb, 2, none⟩ (.string (((xs i) : Vt)).2.2)) := ((HBD.out.setCell (p := ⟨rb, 0, none⟩) HRL.out _).setCell (p := ⟨rb, 1, none⟩) HRL.out _).setCell (p := ⟨rb, 2, none⟩) HRL.out _
    rw [← q1] at hr3 hb9
    have y0 : w9.cell? ⟨rb, 0, none⟩ = some (.int .i64 (((xs i) : Vt)).1) := hr3.at_ 0
    have y1 : w9.cell? ⟨rb, 1, none⟩ = some (.int .i64 (((xs i) : Vt)).2.1) := hr3.at_ 1
    have y2 : w9.cell? ⟨rb, 2, none⟩ = some (.string (((xs i) : Vt)).2.2) := hr3.at_ 2
    have HZ := Veil.mk hb9
    clear hJ hD2 q1 hr3 hb9
    simp only [puts, setAll, List.set_cons_zero, List.set_cons_succ, List.setIfInBounds_toArray]
    go_wp2
    have hfin : Below kb w w9 := by rw [← HW0.out.2.1]; exact HZ.out
    exact bodyPost_ret (v := .tuple #[valV (xs i), .int .i64 7, .bool true]) (by simp [results, Tryd.results23, go_sem, y0, y1, y2]) rfl ⟨rfl, hfin⟩
end Go.Proofs.YtbeapojjbgkalaaDoor
