/- fit: the keys of an array of two elements. -/
import Derived.Test.YtbeapojjbgkalaaGreatDoorKc
import Derived.Test.YtbeapojjbgkalaaGreatDoorIh
import Derived.Test.YtbeapojjbgkalaaGreatDoorIr
namespace Go.Proofs.YtbeapojjbgkalaaGreatDoor
open Go Go.RowKit
attribute [local go_sem] Oper.semAt_some

theorem len6 {α : Type} {us : List α} (h : us.length = 6) : ∃ a0 a1 a2 a3 a4 a5, us = [a0, a1, a2, a3, a4, a5] := by
  match us, h with
  | [a0, a1, a2, a3, a4, a5], _ => exact ⟨a0, a1, a2, a3, a4, a5, rfl⟩
theorem len5 {α : Type} {us : List α} (h : us.length = 5) : ∃ a0 a1 a2 a3 a4, us = [a0, a1, a2, a3, a4] := by
  match us, h with
  | [a0, a1, a2, a3, a4], _ => exact ⟨a0, a1, a2, a3, a4, rfl⟩
abbrev sV (s : ByteArray) : Value := .agg #[.int .i64 7, .int .i64 0, .string s]
def kB (k : Nat) : ByteArray := if k = 0 then k0B else k1B
theorem ik_any (k : Nat) (hk : k < 2) (w : World) : Calls Tryz.prog 40 #[.int .i64 (k : Int)] w fun e w' => e = .returned (.agg #[.int .i64 7, .int .i64 0, .string (kB k)]) ∧ Below w.heap.size w w' := by
  match k, hk with
  | 0, _ => exact ik_0 w
  | 1, _ => exact ik_1 w
theorem ks_step (k : Nat) (hk : k < 2) : ks2.take (k * 3) ++ [.int .i64 7, .int .i64 0, .string (kB k)] = ks2.take ((k + 1) * 3) := by
  match k, hk with
  | 0, _ => rfl
  | 1, _ => rfl
/-- Behind k of the two elements. -/
structure KR (w : World) (N k : Nat) (W : World) : Prop where
  bel : Below N w W
  row : ∃ v, Box W N 34 #[v] ∧ W.ownsRow N 43 3 v k (ks2.take (k * 3))
  bn : Box W (N + 1) 34 #[.slice none 0 0]
  bs : Box W (N + 2) 34 #[.slice none 0 0]
theorem KR.on {w W W' : World} {N k : Nat} (h : KR w N k W) (hb : Below W.heap.size W W') : KR w N k W' := by
  obtain ⟨v, h1, h2⟩ := h.row
  have hN : N ≤ W.heap.size := by have := h1.lt; omega
  exact ⟨h.bel.trans (hb.mono hN), ⟨v, h1.on hb h1.lt, own_below h2 hb⟩, h.bn.on hb h.bn.lt, h.bs.on hb h.bs.lt⟩
theorem zeroE (k : Nat) (hk : k < 2) {W : World} {ge : Nat} (h : Box W ge 43 #[.int .i64 0, .int .i64 0, .string ⟨#[]⟩, .int .i64 0, .int .i64 0, .string ⟨#[]⟩]) : W.cell? ⟨ge, k * 3, none⟩ = some (.int .i64 0) ∧ W.cell? ⟨ge, k * 3 + 1, none⟩ = some (.int .i64 0) ∧ W.cell? ⟨ge, k * 3 + 2, none⟩ = some (.string ⟨#[]⟩) := by
  match k, hk with
  | 0, _ => exact ⟨h.at_ 0, h.at_ 1, h.at_ 2⟩
  | 1, _ => exact ⟨h.at_ 3, h.at_ 4, h.at_ 5⟩
theorem allnil_any (w : World) : Calls Tryz.prog 41 #[.pointer none] w fun e w' => e = .returned (.func (.func 77) #[] #[.pointer (some ⟨w.heap.size, 0, none⟩)]) ∧ Box w' w.heap.size 62 #[.pointer none] ∧ Below w.heap.size w w' := by
  have hb : Below w.heap.size w (w.alloc (.cells #[.pointer none] 62)) := (Below.refl _ _).alloc (Nat.le_refl _) _
  have bx := Box.new w 62 #[.pointer none]
  go_enter Tryz.func41, Tryz.ntmps41
  go_wp2
  go_ret
  exact ⟨rfl, bx, hb⟩
theorem KR.app {w W w2 w3 : World} {N k r cap : Nat} {lv : Value} (h : KR w N k W) (l1 : Box W N 34 #[lv]) (l2 : W.ownsRow N 43 3 lv k (ks2.take (k * 3))) (hk : k < 2) (hb : Below W.heap.size W w2) (ho : w3.ownsRow N 43 3 (.slice (some ⟨r, 0, none⟩) (k + 1) cap) (k + 1) (ks2.take (k * 3) ++ [.int .i64 7, .int .i64 0, .string (kB k)])) (hg : (w2.alloc (.cells [Value.int .i64 7, .int .i64 0, .string (kB k)].toArray 43)).grownBy w3 lv.ownBlock) : KR w N (k + 1) (w3.setCell ⟨N, 0, none⟩ (.slice (some ⟨r, 0, none⟩) (k + 1) cap)) := by
  have hs := hb.size
  have hNW : N < W.heap.size := l1.lt
  have hb2 : Below W.heap.size W (w2.alloc (.cells [Value.int .i64 7, .int .i64 0, .string (kB k)].toArray 43)) := hb.alloc hs _
  have t1 : Touch (fun j => N ≤ j ∧ (lv.ownBlock = some j)) W w3 := (Touch.of_below hb2).trans (Touch.of_grown hg (fun j hj => ⟨(own_lt l2 j hj).1, hj⟩))
  have tp : Touch (fun j => j = N) w3 (w3.setCell ⟨N, 0, none⟩ (.slice (some ⟨r, 0, none⟩) (k + 1) cap)) := Touch.put (S := fun j => j = N) rfl _ _
  have hx3 : Box w3 N 34 #[lv] := l1.touch t1 (fun h => (own_lab l2 N h.2).ne l1.lab (by decide) rfl)
  refine ⟨h.bel.trans ((t1.below (by omega) (fun j hj => hj.1)).trans (tp.below (by have := hx3.lt; omega) (fun j hj => by omega))), ⟨_, hx3.put 0 _, ?_⟩, ?_, ?_⟩
  · rw [← ks_step k hk]
    exact own_touch ho tp (fun j hj e => (own_lab ho j hj).ne hx3.lab (by decide) e)
  · exact (h.bn.touch t1 (fun e => (own_lab l2 _ e.2).ne h.bn.lab (by decide) rfl)).touch tp (by omega)
  · exact (h.bs.touch t1 (fun e => (own_lab l2 _ e.2).ne h.bs.lab (by decide) rfl)).touch tp (by omega)
set_option maxHeartbeats 2000000 in
set_option maxRecDepth 100000 in
theorem keys_fit {w : World} {o ge : Nat} (ho : Box w o 68 (objC 1 0 false (.pointer none) (.slice (some ⟨ge, 0, none⟩) 2 2))) (he : Box w ge 43 #[.int .i64 0, .int .i64 0, .string ⟨#[]⟩, .int .i64 0, .int .i64 0, .string ⟨#[]⟩]) :
    Calls Tryz.prog 10 #[.pointer (some ⟨o, 0, none⟩)] w fun e w' => ∃ g cap, e = .returned (.slice (some ⟨g, 0, none⟩) 3 cap) ∧ w'.ownsRow w.heap.size 43 3 (.slice (some ⟨g, 0, none⟩) 3 cap) 3 (ks2 ++ lenC) ∧ Below w.heap.size w w' := by
  obtain ⟨i0, hi, hz0, hz1, hz2⟩ := info_parts Tryz.infoV
  obtain ⟨N, hN⟩ : ∃ N, w.heap.size = N := ⟨_, rfl⟩
  have hol := ho.lt
  have hel := he.lt
  have b0 := ((Box.new w 34 #[.slice none 0 0]).more (.cells #[.slice none 0 0] 34)).more (.cells #[.slice none 0 0] 34)
  have b1 := (Box.new (w.alloc (.cells #[.slice none 0 0] 34)) 34 #[.slice none 0 0]).more (.cells #[.slice none 0 0] 34)
  have b2 := Box.new ((w.alloc (.cells #[.slice none 0 0] 34)).alloc (.cells #[.slice none 0 0] 34)) 34 #[.slice none 0 0]
  have bb : Below w.heap.size w (((w.alloc (.cells #[.slice none 0 0] 34)).alloc (.cells #[.slice none 0 0] 34)).alloc (.cells #[.slice none 0 0] 34)) := (((Below.refl _ _).alloc (Nat.le_refl _) _).alloc (by rw [World.size_alloc]; omega) _).alloc (by rw [World.size_alloc, World.size_alloc]; omega) _
  rw [World.size_alloc] at b1
  rw [World.size_alloc, World.size_alloc] at b2
  obtain ⟨W0, hW0⟩ : ∃ W0, (((w.alloc (.cells #[.slice none 0 0] 34)).alloc (.cells #[.slice none 0 0] 34)).alloc (.cells #[.slice none 0 0] 34)) = W0 := ⟨_, rfl⟩
  rw [hW0] at b0 b1 b2 bb
  rw [hN] at b0 b1 b2 bb ⊢
  have HK0 := Veil.mk (show KR w N 0 W0 from ⟨bb, ⟨_, b0, rfl, .inl ⟨rfl, rfl⟩⟩, b1, b2⟩)
  have HOE : Veil (∀ W, Below N w W → Box W o 68 (objC 1 0 false (.pointer none) (.slice (some ⟨ge, 0, none⟩) 2 2)) ∧ Box W ge 43 #[.int .i64 0, .int .i64 0, .string ⟨#[]⟩, .int .i64 0, .int .i64 0, .string ⟨#[]⟩]) := ⟨fun W hb => ⟨ho.on hb (by omega), he.on hb (by omega)⟩⟩
  have HW0 := Veil.mk (And.intro hW0 hN)
  have HVL : Veil (∀ w, Calls Tryz.prog 15 #[.string ⟨#[108, 101, 110, 103, 116, 104]⟩] w fun e w' => e = .returned (sV lenB) ∧ Below w.heap.size w w') := ⟨fun w => W.val_const _ _ (by decide) (show Hid (W.ofB _ = _) from by show _ = _; decide +kernel) w⟩
  have c4 : W0.cell? ⟨o, 4, none⟩ = some (.slice (some ⟨ge, 0, none⟩) 2 2) := (HOE.out W0 bb).1.at_ 4
  clear ho he hol hel b0 b1 b2 bb hN hW0
  refine (callsIn_wide (n := 6)).1 (callsIn_of_wp_marks Tryz.func10 rfl trivial (wpIn_wide.2 ?_) rfl)
  simp only [Tryz.ntmps10, List.size_toArray, List.length_cons, List.length_nil, Nat.reduceAdd, Nat.reduceSub, Array.replicate_succ, Array.replicate_zero, List.push_toArray, List.append_toArray, List.nil_append, List.cons_append]
  go_upto_region 4 with (fail)
  rw [HW0.out.1, HW0.out.2]
  go_wp2
  go_loopw [16] (fun i wr => ∃ k : Nat, k ≤ 2 ∧ i = .int .i64 (k : Int) ∧ KR w N k wr) (fun i _ => 2 - (intOf i).toNat)
  case atStart => exact ⟨0, by omega, rfl, HK0.out⟩
  case round =>
    obtain ⟨k, hk, rfl, hkr⟩ := hrel
    have hk0 : (0 : Int) ≤ (k : Int) := by omega
    by_cases hlt : k < 2
    · have hlt' : (k : Int) < 2 := by omega
      have HKK := Veil.mk hlt
      obtain ⟨ho2, he2⟩ := HOE.out wr hkr.bel
      obtain ⟨z0, z1, z2⟩ := zeroE k hlt he2
      have hal : Below wr.heap.size wr (wr.alloc (.cells #[.int .i64 0, .int .i64 0, .string ⟨#[]⟩] 43)) := (Below.refl _ _).alloc (Nat.le_refl _) _
      have o0 : (wr.alloc (.cells #[.int .i64 0, .int .i64 0, .string ⟨#[]⟩] 43)).cell? ⟨o, 0, none⟩ = some (.int .i64 1) := (ho2.below hal).at_ 0
      have HKR0 := Veil.mk (hkr.on hal)
      clear hkr ho2 he2 hal
      go_upto_region 8 with (fail)
      obtain ⟨W, hW⟩ : ∃ W, wr.alloc (.cells #[.int .i64 0, .int .i64 0, .string ⟨#[]⟩] 43) = W := ⟨_, rfl⟩
      have HKR1 := HKR0.out
      rw [hW] at HKR1 ⊢
      clear hW o0 z0 z1 z2 HKR0
      obtain ⟨lv, l1, l2⟩ := HKR1.row
      have HKR := Veil.mk (show KR w N k W ∧ Box W N 34 #[lv] ∧ W.ownsRow N 43 3 lv k (ks2.take (k * 3)) ∧ N ≤ W.heap.size from ⟨HKR1, l1, l2, by have := l1.lt; omega⟩)
      obtain ⟨la, lc, rfl, -⟩ := slice_own l2
      clear HKR1 l1 l2
      obtain ⟨lv, hlv⟩ : ∃ lv : Value, Value.slice la k lc = lv := ⟨_, rfl⟩
      rw [hlv] at HKR
      have HLV := Veil.mk hlv
      clear hlv
      refine wp_region_chain ([some (· = lv), some (· = .int .i64 (k : Int)), some (· = sV (kB k)), none, none, none] : List (Option (Value → Prop))) (AppPh W N 43 3 k (ks2.take (k * 3)) [.int .i64 7, .int .i64 0, .string (kB k)] lv N 0 3 4 5) [some 31, some 32, some 33, some 34, some 35, none] (curV' _ [some 31, some 32, some 33, some 34, some 35, none]) (by kernel_rfl) rfl rfl (puts_cur _ _) (Below.refl _ _).drew ?_ (by kernel_rfl) ?_
      · refine Steps.cons rfl (fun bb aa w' hbs hb0 hbp hI K hK => ?_) ?_
        · obtain ⟨us, hus, ha, hI⟩ := hI
          obtain ⟨u0, u1, u2, u3, u4, u5, rfl⟩ := len6 hus
          have h4 := hI.before 4 0 rfl (by kernel_rfl) hb0
          have h5 := hI.before 5 4 rfl (by kernel_rfl) h4
          have hch := hI.ph.below h5 h4
          have c0 : w'.cell? ⟨N, 0, none⟩ = some lv := (HKR.out.2.1.on hch HKR.out.2.1.lt).at_ 0
          have HI := Veil.mk hI
          clear hI
          clear h5
          clear h4
          rw [ha]
          simp only [puts, setAll, List.setIfInBounds_toArray, List.set_cons_zero, List.set_cons_succ]
          go_simp
          exact hK _ _ (chain_step HI.out hus hbs 0 _ (by show 0 < 6; decide) rfl hbp (val_of rfl rfl) (HI.out.ph.step 0 _ (by decide) (by decide) (by decide)) (by simp only [puts, setAll, List.set_cons_zero, List.set_cons_succ, List.setIfInBounds_toArray]))
        refine Steps.cons rfl (fun bb aa w' hbs hb0 hbp hI K hK => ?_) ?_
        · obtain ⟨us, hus, ha, hI⟩ := hI
          obtain ⟨u0, u1, u2, u3, u4, u5, rfl⟩ := len6 hus
          have HI := Veil.mk hI
          clear hI
          rw [ha]
          simp only [puts, setAll, List.setIfInBounds_toArray, List.set_cons_zero, List.set_cons_succ]
          go_simp
          exact hK _ _ (chain_step HI.out hus hbs 1 _ (by show 1 < 6; decide) rfl hbp (val_of rfl rfl) (HI.out.ph.step 1 _ (by decide) (by decide) (by decide)) (by simp only [puts, setAll, List.set_cons_zero, List.set_cons_succ, List.setIfInBounds_toArray]))
        refine Steps.cons rfl (fun bb aa w' hbs hb0 hbp hI K hK => ?_) ?_
        · obtain ⟨us, hus, ha, hI⟩ := hI
          obtain ⟨u0, u1, u2, u3, u4, u5, rfl⟩ := len6 hus
          have e1 : u1 = .int .i64 (k : Int) := hI.val 1 _ rfl (gen_after 1 (by kernel_rfl) hbp)
          subst e1
          have h3 := hI.before 3 2 rfl (by kernel_rfl) hb0
          have h4 := hI.before 4 3 rfl (by kernel_rfl) h3
          have h5 := hI.before 5 4 rfl (by kernel_rfl) h4
          have hch := hI.ph.below h5 h4
          have HI := Veil.mk hI
          clear hI
          have HF := Veil.mk (And.intro h5 (And.intro h4 h3))
          clear h5
          clear h4
          clear h3
          rw [ha]
          simp only [puts, setAll, List.setIfInBounds_toArray, List.set_cons_zero, List.set_cons_succ]
          go_simp
          go_at_call 40
          refine (ik_any k HKK.out _).mono ?_
          rintro e w2 ⟨rfl, hb2⟩
          go_simp
          exact hK _ _ (chain_step HI.out hus hbs 2 _ (by show 2 < 6; decide) rfl hbp (val_of rfl rfl) (HI.out.ph.call 2 _ (by decide) (by decide) (by decide) HF.out.1 HF.out.2.1 hb2 HF.out.2.2) (by simp only [puts, setAll, List.set_cons_zero, List.set_cons_succ, List.setIfInBounds_toArray]))
        refine Steps.cons rfl (fun bb aa w' hbs hb0 hbp hI K hK => ?_) ?_
        · obtain ⟨us, hus, ha, hI⟩ := hI
          obtain ⟨u0, u1, u2, u3, u4, u5, rfl⟩ := len6 hus
          have e2 : u2 = sV (kB k) := hI.val 2 _ rfl (gen_after 2 (by kernel_rfl) hbp)
          subst e2
          have h4 := hI.before 4 3 rfl (by kernel_rfl) hb0
          have h5 := hI.before 5 4 rfl (by kernel_rfl) h4
          have HI := Veil.mk hI
          clear hI
          have HF := Veil.mk (And.intro h5 h4)
          clear h5
          clear h4
          rw [ha]
          simp only [puts, setAll, List.setIfInBounds_toArray, List.set_cons_zero, List.set_cons_succ]
          go_simp
          exact hK _ _ (chain_step HI.out hus hbs 3 _ (by show 3 < 6; decide) rfl hbp (none_of rfl) (HI.out.ph.row (by decide) (by decide) HF.out.1 HF.out.2) (by simp only [puts, setAll, List.set_cons_zero, List.set_cons_succ, List.setIfInBounds_toArray]))
        refine Steps.cons rfl (fun bb aa w' hbs hb0 hbp hI K hK => ?_) ?_
        · obtain ⟨us, hus, ha, hI⟩ := hI
          obtain ⟨u0, u1, u2, u3, u4, u5, rfl⟩ := len6 hus
          have e0 : u0 = lv := hI.val 0 _ rfl (gen_after 0 (by kernel_rfl) hbp)
          have h5 := hI.before 5 4 rfl (by kernel_rfl) hb0
          have hp := hI.ph.at_bs h5 hb0 (gen_after 3 (by kernel_rfl) hbp)
          have HI := Veil.mk hI
          clear hI
          have HF := Veil.mk h5
          clear h5
          rw [ha]
          simp only [puts, setAll, List.setIfInBounds_toArray, List.set_cons_zero, List.set_cons_succ]
          clear ha
          obtain ⟨w2, hch, e3, rfl⟩ := hp
          have e : u3 = .slice (some ⟨w2.heap.size, 0, none⟩) 1 1 := e3
          clear e3
          subst e
          have hT2 := own_below HKR.out.2.2.1 hch
          have hs2 := hch.size
          have hN2 := HKR.out.2.2.2
          have hk2 := HKK.out
          refine wp_append_lies _ (.tmp 31) (.tmp 34) 34 rfl N 43 i0 (.agg #[.int .i64 0, .int .i64 0, .string ⟨#[]⟩]) 3 32 Tryz.underlying34 hi hz0 hz1 hz2 rfl (by decide) lv k (ks2.take (k * 3)) (by simp [Act.eval, e0]) (hT2.alloc _) ⟨w2.heap.size, 0, none⟩ 1 1 [.int .i64 7, .int .i64 0, .string (kB k)] (by simp [Act.eval]) rfl (news_at _ _ rfl _ _) (by simp [Value.oneCell']) (by decide) (by unfold maxLen; omega) (by omega) (by simp; omega) _ rfl ?_; intro r cap' w3 hown' hgrow3 hblk hg3
          exact hK _ _ (chain_step HI.out hus hbs 4 _ (by show 4 < 6; decide) rfl hbp (none_of rfl) (AppPh.app (by decide) HF.out hch hown' hgrow3 hblk) (by simp only [Act.put, puts, setAll, List.set_cons_zero, List.set_cons_succ, List.setIfInBounds_toArray]))
        refine Steps.cons rfl (fun bb aa w' hbs hb0 hbp hI K hK => ?_) ?_
        · obtain ⟨us, hus, ha, hI⟩ := hI
          obtain ⟨u0, u1, u2, u3, u4, u5, rfl⟩ := len6 hus
          have hp := hI.ph.at_ap hb0 (gen_after 4 (by kernel_rfl) hbp)
          have HI := Veil.mk hI
          clear hI
          rw [ha]
          simp only [puts, setAll, List.setIfInBounds_toArray, List.set_cons_zero, List.set_cons_succ]
          clear ha
          obtain ⟨r, cap', e4, w2, hch, hown', hgrow3, hblk⟩ := hp
          have e : u4 = .slice (some ⟨r, 0, none⟩) (k + 1) cap' := e4
          clear e4
          subst e
          have hx3 : Box w' N 34 _ := ((HKR.out.2.1.on hch HKR.out.2.1.lt).more _).grown hgrow3 ((HKR.out.2.1.on hch HKR.out.2.1.lt).apart (own_below HKR.out.2.2.1 hch) (by decide))
          have e12 : w'.cell? ⟨N, 0, none⟩ = some lv := hx3.at_ 0
          have e13 := hx3.free 0
          go_simp
          exact hK _ _ (chain_step HI.out hus hbs 5 undef (by show 5 < 6; decide) rfl hbp (none_of rfl) (AppPh.sto hch hown' hgrow3 hblk) (by simp only [puts, setAll, List.set_cons_zero, List.set_cons_succ, List.setIfInBounds_toArray]))
        exact Steps.nil
      · intro us w8 hus dd hD2 hJ
        obtain ⟨q0, q1, q2, q3, q4, q5, rfl⟩ := len6 hus
        obtain ⟨w3', r, cap', ⟨w2', hb2', ho', hg', hr'⟩, rfl⟩ := hJ.ph.at_st (hD2 5 (by show 5 < 6; decide))
        clear hJ hD2
        have key := KR.app HKR.out.1 HKR.out.2.1 HKR.out.2.2.1 HKK.out hb2' ho' hg'
        have HKEY := Veil.mk key
        clear key hb2' ho' hg' hr'
        simp only [puts, setAll, List.set_cons_zero, List.set_cons_succ, List.setIfInBounds_toArray]
        go_wp2
        go_roundw
        case rel => exact ⟨k + 1, by omega, by go_num, HKEY.out⟩
        case measure => simp [intOf]; omega
    · obtain rfl : k = 2 := by omega
      clear hlt hk hk0
      obtain ⟨v, l1, l2⟩ := hkr.row
      obtain ⟨la, lc, rfl, -, hg, -⟩ := slice_own l2
      obtain ⟨g, rfl⟩ := hg (by omega)
      have ho2 := (HOE.out wr hkr.bel).1
      have o3 : wr.cell? ⟨o, 3, none⟩ = some (.pointer none) := ho2.at_ 3
      have HKR := Veil.mk (And.intro hkr (And.intro l1 (And.intro l2 ho2)))
      clear hkr l1 l2 ho2
      go_wp2_with (first | (go_at_call 41; ((with_reducible refine (allnil_any _).mono ?_); rintro e w2 ⟨rfl, hbx, hb2⟩; have HB2 := Veil.mk (And.intro hbx hb2); clear hbx hb2)))
      refine wpIn_wide.1 (wpIn_rangeFunc_tab (n := 6) (by omega) (gf := 77) (lb := #[.pointer (some ⟨wr.heap.size, 0, none⟩)]) rfl (enters_of Tryz.func77 (by kernel_rfl) rfl) (encs := fun x : Vt × Vt => #[valV x.1, valV x.2]) (F := fun _ => False) (G := fun _ => False) (S := fun xs => xs = []) (Sp := fun _ => False) (Pt := fun _ => True) (fun _ h => h.elim) ?hseq
        (fun _ _ _ _ h _ _ => h) (fun _ => rfl) (fun _ => False) (fun _ h => h.elim) (fun _ h => h.elim) (fun _ W => Below w2.heap.size w2 W) (fun _ _ _ => False)
        ?hI (fun _ _ _ _ h _ => h.elim) (Below.refl _ _) (fun _ _ _ _ => True) (fun _ _ _ _ _ h _ _ => h) ?assign (fun _ _ _ _ _ _ _ h => h.elim) ?done (fun _ _ _ _ _ h => h.elim))
      case hseq =>
        intro W hb
        exact allnil_stops 5 (by omega) wr.heap.size W (HB2.out.1.on hb HB2.out.1.lt)
      case hI => exact fun s A' B' h ht => h.trans (ht.below h.size (fun j hj => hj.elim (fun h => h.elim) id))
      case assign =>
        intro l pre x W K hI hK
        gi_wp2
        exact hK _ _ (Touch.of_below ((Below.refl _ _).alloc (Nat.le_refl _) _)) (hI.alloc hI.size _) trivial
      case done =>
        rintro D xs W hD - hI - hK
        have hb3 : Below wr.heap.size wr W := blw2 HB2.out.2 hI
        obtain ⟨hkr, l1, l2, ho2⟩ := HKR.out
        have hDN : N ≤ D := by have := l1.lt; have := HB2.out.2.size; omega
        have hk3 := hkr.on hb3
        have l13 := l1.on hb3 l1.lt
        have l23 := own_below l2 hb3
        have ho3 := ho2.below hb3
        have c3 : W.cell? ⟨N, 0, none⟩ = some (.slice (some ⟨g, 0, none⟩) 2 lc) := l13.at_ 0
        have HSO := Veil.mk (sort_two N g lc W l23)
        have HW := Veil.mk (And.intro hk3 (And.intro l13 (And.intro l23 (And.intro ho3 (And.intro hK hDN)))))
        clear hb3 hkr l1 l2 ho2 hk3 l13 l23 ho3 hK hD hDN hI HKR HB2 o3
        go_upto_region 18 with (go_at_call 43; ((with_reducible refine HSO.out.mono ?_); rintro e w4 ⟨rfl, hb4⟩))
        obtain ⟨hk3, l13, l23, ho3, hK, hDN⟩ := HW.out
        have ho4 := ho3.below hb4
        have o0 : w4.cell? ⟨o, 0, none⟩ = some (.int .i64 1) := ho4.at_ 0
        have hk4 := hk3.on hb4
        have HKS := Veil.mk (show Box w4 (N + 1) 34 #[.slice none 0 0] ∧ w4.ownsRow N 43 3 (.slice none 0 0) 0 [] ∧ N ≤ w4.heap.size from ⟨hk4.bn, ⟨rfl, .inl ⟨rfl, rfl⟩⟩, by have := hk4.bn.lt; omega⟩)
        have HS4 := Veil.mk (And.intro hk4 (And.intro (l13.on hb4 l13.lt) (And.intro (own_below l23 hb4) (And.intro ((hb4.block D (Array.getElem?_eq_some_iff.1 hK).1).trans hK) hDN))))
        clear hk3 l13 l23 ho3 hK hDN ho4 hk4 hb4 HW HSO c3
        go_upto_region 19 with (fail)
        refine wp_region_chain ([some (· = .slice none 0 0), some (· = sV lenB), none, none, none] : List (Option (Value → Prop))) (AppPh w4 N 43 3 0 [] lenC (.slice none 0 0) (N + 1) 0 2 3 4) [some 72, some 73, some 74, some 75, none] (curV' _ [some 72, some 73, some 74, some 75, none]) (by kernel_rfl) rfl rfl (puts_cur _ _) (Below.refl _ _).drew ?_ (by kernel_rfl) ?_
        · refine Steps.cons rfl (fun bb aa w' hbs hb0 hbp hI K hK => ?_) ?_
          · obtain ⟨us, hus, ha, hI⟩ := hI
            obtain ⟨u0, u1, u2, u3, u4, rfl⟩ := len5 hus
            have h3 := hI.before 3 0 rfl (by kernel_rfl) hb0
            have h4 := hI.before 4 3 rfl (by kernel_rfl) h3
            have hch := hI.ph.below h4 h3
            have c0 : w'.cell? ⟨N + 1, 0, none⟩ = some (.slice none 0 0) := (HKS.out.1.on hch HKS.out.1.lt).at_ 0
            have HI := Veil.mk hI
            clear hI
            clear h4
            clear h3
            rw [ha]
            simp only [puts, setAll, List.setIfInBounds_toArray, List.set_cons_zero, List.set_cons_succ]
            go_simp
            exact hK _ _ (chain_step HI.out hus hbs 0 _ (by show 0 < 5; decide) rfl hbp (val_of rfl rfl) (HI.out.ph.step 0 _ (by decide) (by decide) (by decide)) (by simp only [puts, setAll, List.set_cons_zero, List.set_cons_succ, List.setIfInBounds_toArray]))
          refine Steps.cons rfl (fun bb aa w' hbs hb0 hbp hI K hK => ?_) ?_
          · obtain ⟨us, hus, ha, hI⟩ := hI
            obtain ⟨u0, u1, u2, u3, u4, rfl⟩ := len5 hus
            have h2 := hI.before 2 1 rfl (by kernel_rfl) hb0
            have h3 := hI.before 3 2 rfl (by kernel_rfl) h2
            have h4 := hI.before 4 3 rfl (by kernel_rfl) h3
            have hch := hI.ph.below h4 h3
            have HI := Veil.mk hI
            clear hI
            have HF := Veil.mk (And.intro h4 (And.intro h3 h2))
            clear h4
            clear h3
            clear h2
            rw [ha]
            simp only [puts, setAll, List.setIfInBounds_toArray, List.set_cons_zero, List.set_cons_succ]
            go_simp
            go_at_call 15
            refine (HVL.out _).mono ?_
            rintro e w2 ⟨rfl, hb2⟩
            go_simp
            exact hK _ _ (chain_step HI.out hus hbs 1 _ (by show 1 < 5; decide) rfl hbp (val_of rfl rfl) (HI.out.ph.call 1 _ (by decide) (by decide) (by decide) HF.out.1 HF.out.2.1 hb2 HF.out.2.2) (by simp only [puts, setAll, List.set_cons_zero, List.set_cons_succ, List.setIfInBounds_toArray]))
          refine Steps.cons rfl (fun bb aa w' hbs hb0 hbp hI K hK => ?_) ?_
          · obtain ⟨us, hus, ha, hI⟩ := hI
            obtain ⟨u0, u1, u2, u3, u4, rfl⟩ := len5 hus
            have e1 : u1 = sV lenB := hI.val 1 _ rfl (gen_after 1 (by kernel_rfl) hbp)
            subst e1
            have h3 := hI.before 3 2 rfl (by kernel_rfl) hb0
            have h4 := hI.before 4 3 rfl (by kernel_rfl) h3
            have HI := Veil.mk hI
            clear hI
            have HF := Veil.mk (And.intro h4 h3)
            clear h4
            clear h3
            rw [ha]
            simp only [puts, setAll, List.setIfInBounds_toArray, List.set_cons_zero, List.set_cons_succ]
            go_simp
            exact hK _ _ (chain_step HI.out hus hbs 2 _ (by show 2 < 5; decide) rfl hbp (none_of rfl) (HI.out.ph.row (by decide) (by decide) HF.out.1 HF.out.2) (by simp only [puts, setAll, List.set_cons_zero, List.set_cons_succ, List.setIfInBounds_toArray]))
          refine Steps.cons rfl (fun bb aa w' hbs hb0 hbp hI K hK => ?_) ?_
          · obtain ⟨us, hus, ha, hI⟩ := hI
            obtain ⟨u0, u1, u2, u3, u4, rfl⟩ := len5 hus
            have e0 : u0 = .slice none 0 0 := hI.val 0 _ rfl (gen_after 0 (by kernel_rfl) hbp)
            subst e0
            have h4 := hI.before 4 3 rfl (by kernel_rfl) hb0
            have hp := hI.ph.at_bs h4 hb0 (gen_after 2 (by kernel_rfl) hbp)
            have HI := Veil.mk hI
            clear hI
            have HF := Veil.mk h4
            clear h4
            rw [ha]
            simp only [puts, setAll, List.setIfInBounds_toArray, List.set_cons_zero, List.set_cons_succ]
            clear ha
            obtain ⟨w2, hch, e2, rfl⟩ := hp
            have e : u2 = .slice (some ⟨w2.heap.size, 0, none⟩) 1 1 := e2
            clear e2
            subst e
            have hT2 := own_below HKS.out.2.1 hch
            have hs2 := hch.size
            have hN2 := HKS.out.2.2
            refine wp_append_lies _ (.tmp 72) (.tmp 74) 34 rfl N 43 i0 (.agg #[.int .i64 0, .int .i64 0, .string ⟨#[]⟩]) 3 32 Tryz.underlying34 hi hz0 hz1 hz2 rfl (by decide) (.slice none 0 0) 0 [] (by simp [Act.eval]) (hT2.alloc _) ⟨w2.heap.size, 0, none⟩ 1 1 lenC (by simp [Act.eval]) rfl (news_at _ _ rfl _ _) (by simp [Value.oneCell']) (by decide) (by unfold maxLen; omega) (by omega) (by simp; omega) _ rfl ?_; intro r cap' w3 hown' hgrow3 hblk hg3
            exact hK _ _ (chain_step HI.out hus hbs 3 _ (by show 3 < 5; decide) rfl hbp (none_of rfl) (AppPh.app (by decide) HF.out hch hown' hgrow3 hblk) (by simp only [Act.put, puts, setAll, List.set_cons_zero, List.set_cons_succ, List.setIfInBounds_toArray]))
          refine Steps.cons rfl (fun bb aa w' hbs hb0 hbp hI K hK => ?_) ?_
          · obtain ⟨us, hus, ha, hI⟩ := hI
            obtain ⟨u0, u1, u2, u3, u4, rfl⟩ := len5 hus
            have hp := hI.ph.at_ap hb0 (gen_after 3 (by kernel_rfl) hbp)
            have HI := Veil.mk hI
            clear hI
            rw [ha]
            simp only [puts, setAll, List.setIfInBounds_toArray, List.set_cons_zero, List.set_cons_succ]
            clear ha
            obtain ⟨r, cap', e3, w2, hch, hown', hgrow3, hblk⟩ := hp
            have e : u3 = .slice (some ⟨r, 0, none⟩) (0 + 1) cap' := e3
            clear e3
            subst e
            have hx3 : Box w' (N + 1) 34 _ := ((HKS.out.1.on hch HKS.out.1.lt).more _).grown hgrow3 (by simp [Value.ownBlock])
            have e12 : w'.cell? ⟨N + 1, 0, none⟩ = some (.slice none 0 0) := hx3.at_ 0
            have e13 := hx3.free 0
            go_simp
            exact hK _ _ (chain_step HI.out hus hbs 4 undef (by show 4 < 5; decide) rfl hbp (none_of rfl) (AppPh.sto hch hown' hgrow3 hblk) (by simp only [puts, setAll, List.set_cons_zero, List.set_cons_succ, List.setIfInBounds_toArray]))
          exact Steps.nil
        · intro us w8 hus dd hD2 hJ
          obtain ⟨q0, q1, q2, q3, q4, rfl⟩ := len5 hus
          obtain ⟨w3', r, cap', ⟨w2', hb2', ho', hg', hr'⟩, rfl⟩ := hJ.ph.at_st (hD2 4 (by show 4 < 5; decide))
          clear hJ hD2
          obtain ⟨hk4, l14, l24, hK4, hDN⟩ := HS4.out
          have hb3' : Below w4.heap.size w4 w3' := (hb2'.alloc hb2'.size _).grown hg' (by rw [World.size_alloc]; have := hb2'.size; omega) (fun k h => by cases h)
          have tp : Touch (fun j => j = N + 1) w3' (w3'.setCell ⟨N + 1, 0, none⟩ (.slice (some ⟨r, 0, none⟩) (0 + 1) cap')) := Touch.put (S := fun j => j = N + 1) rfl _ _
          have hn3 := hk4.bn.on hb3' hk4.bn.lt
          have x1 := hn3.put 0 (.slice (some ⟨r, 0, none⟩) (0 + 1) cap')
          have x0 := (l14.on hb3' l14.lt).touch tp (by omega)
          have x2 := (hk4.bs.on hb3' hk4.bs.lt).touch tp (by omega)
          have y1 := own_touch (own_below l24 hb3') tp (fun j hj e => (own_lab (own_below l24 hb3') j hj).ne hn3.lab (by decide) e)
          have y2 := own_touch ho' tp (fun j hj e => (own_lab ho' j hj).ne hn3.lab (by decide) e)
          have hD5 := (tp.block D (by have := (Array.getElem?_eq_some_iff.1 hK4).1; have := hb3'.size; omega) (fun e => by
            have h1 := hK4
            rw [e] at h1
            exact absurd (h1.symm.trans hk4.bn) (by simp))).trans ((hb3'.block D (Array.getElem?_eq_some_iff.1 hK4).1).trans hK4)
          have hbw : Below N w (w3'.setCell ⟨N + 1, 0, none⟩ (.slice (some ⟨r, 0, none⟩) (0 + 1) cap')) := hk4.bel.trans ((hb3'.mono (by have := hk4.bn.lt; omega)).trans (tp.below (by have := hn3.lt; omega) (fun j hj => by omega)))
          obtain ⟨W5, hW5⟩ : ∃ W5, w3'.setCell ⟨N + 1, 0, none⟩ (.slice (some ⟨r, 0, none⟩) (0 + 1) cap') = W5 := ⟨_, rfl⟩
          rw [hW5] at x0 x1 x2 y1 y2 hD5 hbw ⊢
          have d0 : W5.cell? ⟨N, 0, none⟩ = some (.slice (some ⟨g, 0, none⟩) 2 lc) := x0.at_ 0
          have d1 : W5.cell? ⟨N + 1, 0, none⟩ = some (.slice (some ⟨r, 0, none⟩) 1 cap') := x1.at_ 0
          have d2 : W5.cell? ⟨N + 2, 0, none⟩ = some (.slice none 0 0) := x2.at_ 0
          have hal : Below W5.heap.size W5 (W5.alloc (.cells #[.slice (some ⟨g, 0, none⟩) 2 lc, .slice (some ⟨r, 0, none⟩) 1 cap', .slice none 0 0] 34)) := (Below.refl _ _).alloc (Nat.le_refl _) _
          have HCC := Veil.mk (concat_fit (Box.new W5 34 #[.slice (some ⟨g, 0, none⟩) 2 lc, .slice (some ⟨r, 0, none⟩) 1 cap', .slice none 0 0]) (own_below y1 hal) (own_below y2 hal))
          have HF5 := Veil.mk (And.intro hbw (And.intro hD5 (And.intro hal (And.intro (show N ≤ W5.heap.size by have := x1.lt; omega) hDN))))
          clear hW5 x0 x1 x2 y1 y2 hD5 hbw hal hn3 tp hb3' hb2' ho' hg' hr' hk4 l14 l24 hK4 hDN o0
          simp only [puts, setAll, List.set_cons_zero, List.set_cons_succ, List.setIfInBounds_toArray]
          go_wp2_with (go_at_call 46; ((with_reducible refine HCC.out.mono ?_); rintro e w6 ⟨g6, cap6, rfl, ho6, hb6⟩))
          obtain ⟨hbw, hD5, hal, hN5, hDN⟩ := HF5.out
          have hb56 : Below W5.heap.size W5 w6 := hal.trans (hb6.mono (by rw [World.size_alloc]; omega))
          have hD6 := (hb56.block D (Array.getElem?_eq_some_iff.1 hD5).1).trans hD5
          refine ⟨by simp, .inl ⟨_, _, rfl, run_takeDeferred hD6, ?_⟩⟩
          have hD5l := (Array.getElem?_eq_some_iff.1 hD5).1
          have tp := Touch.putObj (S := fun k => k = D) (w := w6) rfl (.deferred none)
          have hs6 := hb56.size
          refine ⟨.slice (some ⟨g6, 0, none⟩) 3 cap6, by simp [results, Tryz.results10, go_sem], g6, cap6, rfl, own_touch ⟨ho6.1, ho6.2.imp id (fun ⟨g, cap, cur, h1, h2, h3⟩ => ⟨g, cap, cur, h1, by rw [World.size_alloc] at h2; omega, h3⟩)⟩ tp (fun k hk e => by have := (own_lt ho6 k hk).1; rw [World.size_alloc] at this; omega), (hbw.trans (hb56.mono hN5)).trans (tp.below (by omega) (fun j hj => by omega))⟩
end Go.Proofs.YtbeapojjbgkalaaGreatDoor
