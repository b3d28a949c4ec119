/- Package heap: Scope, Symbol, Env, Of. -/
import Derived.Test.YtbeapojjbgkalaaGreatDoorSl
import Derived.Test.YtbeapojjbgkalaaGreatDoorIl
import Derived.Test.YtbeapojjbgkalaaGreatDoorIr
namespace Go.Proofs.YtbeapojjbgkalaaGreatDoor
open Go Go.RowKit

theorem len13 {α : Type} {us : List α} (h : us.length = 13) : ∃ a0 a1 a2 a3 a4 a5 a6 a7 a8 a9 a10 a11 a12, us = [a0, a1, a2, a3, a4, a5, a6, a7, a8, a9, a10, a11, a12] := by
  match us, h with
  | [a0, a1, a2, a3, a4, a5, a6, a7, a8, a9, a10, a11, a12], _ => exact ⟨a0, a1, a2, a3, a4, a5, a6, a7, a8, a9, a10, a11, a12, rfl⟩
theorem len10 {α : Type} {us : List α} (h : us.length = 10) : ∃ a0 a1 a2 a3 a4 a5 a6 a7 a8 a9, us = [a0, a1, a2, a3, a4, a5, a6, a7, a8, a9] := by
  match us, h with
  | [a0, a1, a2, a3, a4, a5, a6, a7, a8, a9], _ => exact ⟨a0, a1, a2, a3, a4, a5, a6, a7, a8, a9, rfl⟩
theorem CJ.back {l : List Oper} {ks : List (Option (Value → Prop))} {Ph : (Nat → Bool) → (Nat → Value) → World → Prop} {d : Nat → Bool} {us : Nat → Value} {w : World} (h : CJ l ks Ph d us w) (i j : Nat) {o : Oper} (ho : l[i]? = some o) (ha : (o.after.any fun e => Region.binds .any e && e.on == j) = true) (hi : d i = true) : d j = true := by
  cases hj : d j with
  | true => rfl
  | false => rw [h.before i j ho ha hj] at hi; cases hi
theorem LPh.le {cs : List Nat} {St : Nat → (Nat → Value) → World → Prop} {d : Nat → Bool} {us : Nat → Value} {w : World} (h : LPh cs St d us w) (j c : Nat) (hc : cs[j]? = some c) (hd : d c = false) : ∃ s, s ≤ j ∧ St s (fun j => us (cs.getD j 1000000)) w := by
  obtain ⟨s, h1, h2, h3⟩ := h
  refine ⟨s, ?_, h3⟩
  rcases Nat.lt_or_ge j s with hlt | hge
  · have := (h2 j c hc).2 hlt
    rw [hd] at this
    cases this
  · exact hge
theorem HpAt.on {w w' : World} {B h A : Nat} {cv fv rv : Value} {d : AD} (hp : HpAt w B h A cv fv rv d) (hb : Below w.heap.size w w') : HpAt w' B h A cv fv rv d := ⟨hp.hb.below hb, hp.ar.on hb, hp.hB⟩
theorem hp_make {w : World} {B h A : Nat} {cv fv rv : Value} {d : AD} (hp : HpAt w B h A cv fv rv d) (nb : Bd) (hf : d.free = []) (hc : d.count < 1000000) (hl : d.cells.length < 1000000) :
    Calls Tryz.prog 51 #[.pointer (some ⟨A, 0, none⟩), nodeV nb] w fun e w' => e = .returned (.int .i64 ((d.cells.length : Int) + 1)) ∧ Touch (AFoot A cv fv rv) w w' ∧ ∃ cv' fv' rv', HpAt w' B h A cv' fv' rv' ⟨d.cells ++ [some nb], [], d.count + 1, d.roots⟩ ∧ ∀ k, AFoot A cv' fv' rv' k → AFoot A cv fv rv k ∨ w.heap.size ≤ k := by
  have em : d.mk2 nb = (⟨d.cells ++ [some nb], d.free, d.count + 1, d.roots⟩, d.cells.length + 1) := by
    unfold AD.mk2
    rw [hf]
    rfl
  refine (make_new B A cv fv rv d nb w hp.ar hf (by omega) hl).mono ?_
  rintro e w' ⟨h1, cv', fv', rv', p1, p2, p3⟩
  rw [em] at h1 p1
  rw [hf] at p1
  exact ⟨h1, p2, cv', fv', rv', ⟨hp.hb.touch p2 (AFoot.lab hp.ar hp.hb.lab (by decide) (by decide) (by decide)), p1, hp.hB⟩, p3⟩
def ScP (B h A : Nat) (cv fv rv : Value) (d : AD) (n : Nat) (up : Int) (w w' : World) : Prop := EnvAt w' (w.heap.size + 1) w.heap.size n up ∧ Touch (AFoot A cv fv rv) w w' ∧ ∃ cv' fv' rv', HpAt w' B h A cv' fv' rv' ⟨d.cells ++ [some (envB (w.heap.size + 1))], [], d.count + 1, d.roots⟩ ∧ ∀ k, AFoot A cv' fv' rv' k → AFoot A cv fv rv k ∨ w.heap.size ≤ k
theorem ScP.of {B h A : Nat} {cv fv rv : Value} {d : AD} {n : Nat} {up : Int} {w w1 w' : World} {cv' fv' rv' : Value} (hp : HpAt w B h A cv fv rv d) (hb : Below w.heap.size w w1) (he : EnvAt w1 (w.heap.size + 1) w.heap.size n up) (ht : Touch (AFoot A cv fv rv) w1 w')
    (h2 : HpAt w' B h A cv' fv' rv' ⟨d.cells ++ [some (envB (w.heap.size + 1))], [], d.count + 1, d.roots⟩) (ho : ∀ k, AFoot A cv' fv' rv' k → AFoot A cv fv rv k ∨ w1.heap.size ≤ k) : ScP B h A cv fv rv d n up w w' :=
  ⟨he.touch ht (AFoot.lab (hp.ar.on hb) he.box.lab (by decide) (by decide) (by decide)) (AFoot.lab (hp.ar.on hb) he.row.lab (by decide) (by decide) (by decide)), (Touch.of_below hb).trans ht, cv', fv', rv', h2, fun k hk => (ho k hk).imp id (fun h => Nat.le_trans hb.size h)⟩
def ScSt (B h A : Nat) (cv fv rv : Value) (d : AD) (n : Nat) (up : Int) (WD : World) : Nat → (Nat → Value) → World → Prop
  | 0 => fun _ w => w = WD
  | 1 => fun _ w => Below WD.heap.size WD w ∧ EmR w WD.heap.size n ∧ w.heap.size = WD.heap.size + 1
  | 2 => fun _ w => Below WD.heap.size WD w ∧ EnvAt w (WD.heap.size + 1) WD.heap.size n up
  | _ => fun _ w => ScP B h A cv fv rv d n up WD w
theorem ScSt.below {B h A : Nat} {cv fv rv : Value} {d : AD} {n : Nat} {up : Int} {WD w : World} {s : Nat} {f : Nat → Value} (hs : s ≤ 2) (hst : ScSt B h A cv fv rv d n up WD s f w) : Below WD.heap.size WD w := by
  match s, hs, hst with
  | 0, _, hst => rw [show w = WD from hst]; exact Below.refl _ _
  | 1, _, hst => exact hst.1
  | 2, _, hst => exact hst.1
set_option maxHeartbeats 4000000 in
set_option maxRecDepth 100000 in
theorem scope_any {w : World} {B h A : Nat} {cv fv rv : Value} {d : AD} (hp : HpAt w B h A cv fv rv d) (hf : d.free = []) (hc : d.count < 1000000) (hl : d.cells.length < 1000000) (n : Nat) (hn : n ≤ 1000) (up : Int) :
    Calls Tryz.prog 13 #[.pointer (some ⟨h, 0, none⟩), .int .i64 (n : Int), .int .i64 up] w fun e w' => e = .returned (.int .i64 ((d.cells.length : Int) + 1)) ∧ ∃ wd, Below w.heap.size w wd ∧ wd.heap.size = w.heap.size ∧ ScP B h A cv fv rv d n up wd w' := by
  have HPO := Veil.mk hp
  have HDD := Veil.mk (And.intro hf (And.intro hc hl))
  have HNN : Veil (n ≤ 1000000) := ⟨by omega⟩
  have hn2 : ¬ (1048576 : Int) < (n : Int) := by omega
  have HBC : Veil (max (n : Int) 0 = (n : Int)) := ⟨by omega⟩
  clear hp hf hc hl hn
  go_enter Tryz.func13, Tryz.ntmps13
  go_upto_region 3 with (fail)
  obtain ⟨WD, hWD⟩ : ∃ WD, w.drew = WD := ⟨_, rfl⟩
  have hbd : Below w.heap.size w WD := by rw [← hWD]; exact (Below.refl _ _).drew
  have HPD : Veil (HpAt WD B h A cv fv rv d) := ⟨HPO.out.on hbd⟩
  have HBD : Veil (Below w.heap.size w WD ∧ WD.heap.size = w.heap.size) := ⟨hbd, by rw [← hWD]; rfl⟩
  have HWD := Veil.mk hWD
  clear hbd hWD
  refine wp_region_chain ([some (· = .pointer (some ⟨h, 0, none⟩)), some (· = .pointer (some ⟨h, 0, none⟩)), some (· = .pointer (some ⟨h, 0, none⟩)), some (· = .pointer (some ⟨A, 0, none⟩)), some (· = .int .i64 (n : Int)), some (· = .int .i64 (n : Int)), some (· = .slice (some ⟨WD.heap.size, 0, none⟩) n n), some (· = .int .i64 up), some (· = .agg #[.slice (some ⟨WD.heap.size, 0, none⟩) n n, .int .i64 up]), some (· = .pointer (some ⟨WD.heap.size + 1, 0, none⟩)), some (· = nodeV (envB (WD.heap.size + 1))), some (· = .int .i64 ((d.cells.length : Int) + 1)), some (· = .int .i64 ((d.cells.length : Int) + 1))] : List (Option (Value → Prop))) (LPh [6, 9, 11] (ScSt B h A cv fv rv d n up WD)) [some 13, some 14, some 15, some 16, some 17, some 18, some 19, some 20, some 21, some 22, some 23, some 24, some 6] (curV' _ [some 13, some 14, some 15, some 16, some 17, some 18, some 19, some 20, some 21, some 22, some 23, some 24, some 6]) (by kernel_rfl) rfl rfl (puts_cur _ _) (LPh.start (show w.drew = WD from HWD.out)) ?_ (by kernel_rfl) ?_
  · refine Steps.cons rfl (fun bb aa w' hbs hb0 hbp hI K hK => ?_) ?_
    · obtain ⟨us, hus, ha, hI⟩ := hI
      obtain ⟨u0, u1, u2, u3, u4, u5, u6, u7, u8, u9, u10, u11, u12, rfl⟩ := len13 hus
      have HI := Veil.mk hI
      clear hI
      rw [ha]
      simp only [puts, setAll, List.setIfInBounds_toArray, List.set_cons_zero, List.set_cons_succ]
      go_simp
      exact hK _ _ (chain_step HI.out hus hbs 0 _ (by show 0 < 13; decide) rfl hbp (val_of rfl rfl) (HI.out.ph.step 0 _ (by decide) (by decide)) (by simp only [puts, setAll, List.set_cons_zero, List.set_cons_succ, List.setIfInBounds_toArray]))
    refine Steps.cons rfl (fun bb aa w' hbs hb0 hbp hI K hK => ?_) ?_
    · obtain ⟨us, hus, ha, hI⟩ := hI
      obtain ⟨u0, u1, u2, u3, u4, u5, u6, u7, u8, u9, u10, u11, u12, rfl⟩ := len13 hus
      have e0 : u0 = .pointer (some ⟨h, 0, none⟩) := hI.val 0 _ rfl (gen_after 0 (by kernel_rfl) hbp)
      subst e0
      have HI := Veil.mk hI
      clear hI
      rw [ha]
      simp only [puts, setAll, List.setIfInBounds_toArray, List.set_cons_zero, List.set_cons_succ]
      go_simp
      exact hK _ _ (chain_step HI.out hus hbs 1 _ (by show 1 < 13; decide) rfl hbp (val_of rfl rfl) (HI.out.ph.step 1 _ (by decide) (by decide)) (by simp only [puts, setAll, List.set_cons_zero, List.set_cons_succ, List.setIfInBounds_toArray]))
    refine Steps.cons rfl (fun bb aa w' hbs hb0 hbp hI K hK => ?_) ?_
    · obtain ⟨us, hus, ha, hI⟩ := hI
      obtain ⟨u0, u1, u2, u3, u4, u5, u6, u7, u8, u9, u10, u11, u12, rfl⟩ := len13 hus
      have e1 : u1 = .pointer (some ⟨h, 0, none⟩) := hI.val 1 _ rfl (gen_after 1 (by kernel_rfl) hbp)
      subst e1
      have HI := Veil.mk hI
      clear hI
      rw [ha]
      simp only [puts, setAll, List.setIfInBounds_toArray, List.set_cons_zero, List.set_cons_succ]
      go_simp
      exact hK _ _ (chain_step HI.out hus hbs 2 _ (by show 2 < 13; decide) rfl hbp (val_of rfl rfl) (HI.out.ph.step 2 _ (by decide) (by decide)) (by simp only [puts, setAll, List.set_cons_zero, List.set_cons_succ, List.setIfInBounds_toArray]))
    refine Steps.cons rfl (fun bb aa w' hbs hb0 hbp hI K hK => ?_) ?_
    · obtain ⟨us, hus, ha, hI⟩ := hI
      obtain ⟨u0, u1, u2, u3, u4, u5, u6, u7, u8, u9, u10, u11, u12, rfl⟩ := len13 hus
      have e2 : u2 = .pointer (some ⟨h, 0, none⟩) := hI.val 2 _ rfl (gen_after 2 (by kernel_rfl) hbp)
      subst e2
      have h11 := hI.before 11 3 rfl (by kernel_rfl) hb0
      obtain ⟨sg, hsg, hstg⟩ := hI.ph.le 2 11 rfl h11
      have hbl := ScSt.below hsg hstg
      have c0 : w'.cell? ⟨h, 0, none⟩ = some (.pointer (some ⟨A, 0, none⟩)) := (HPD.out.hb.below hbl).at_ 0
      clear hstg hbl
      have HI := Veil.mk hI
      clear hI h11
      rw [ha]
      simp only [puts, setAll, List.setIfInBounds_toArray, List.set_cons_zero, List.set_cons_succ]
      go_simp
      exact hK _ _ (chain_step HI.out hus hbs 3 _ (by show 3 < 13; decide) rfl hbp (val_of rfl rfl) (HI.out.ph.step 3 _ (by decide) (by decide)) (by simp only [puts, setAll, List.set_cons_zero, List.set_cons_succ, List.setIfInBounds_toArray]))
    refine Steps.cons rfl (fun bb aa w' hbs hb0 hbp hI K hK => ?_) ?_
    · obtain ⟨us, hus, ha, hI⟩ := hI
      obtain ⟨u0, u1, u2, u3, u4, u5, u6, u7, u8, u9, u10, u11, u12, rfl⟩ := len13 hus
      have HI := Veil.mk hI
      clear hI
      rw [ha]
      simp only [puts, setAll, List.setIfInBounds_toArray, List.set_cons_zero, List.set_cons_succ]
      go_simp
      exact hK _ _ (chain_step HI.out hus hbs 4 _ (by show 4 < 13; decide) rfl hbp (val_of rfl rfl) (HI.out.ph.step 4 _ (by decide) (by decide)) (by simp only [puts, setAll, List.set_cons_zero, List.set_cons_succ, List.setIfInBounds_toArray]))
    refine Steps.cons rfl (fun bb aa w' hbs hb0 hbp hI K hK => ?_) ?_
    · obtain ⟨us, hus, ha, hI⟩ := hI
      obtain ⟨u0, u1, u2, u3, u4, u5, u6, u7, u8, u9, u10, u11, u12, rfl⟩ := len13 hus
      have e4 : u4 = .int .i64 (n : Int) := hI.val 4 _ rfl (gen_after 4 (by kernel_rfl) hbp)
      subst e4
      have HI := Veil.mk hI
      clear hI
      rw [ha]
      simp only [puts, setAll, List.setIfInBounds_toArray, List.set_cons_zero, List.set_cons_succ]
      go_simp
      exact hK _ _ (chain_step HI.out hus hbs 5 _ (by show 5 < 13; decide) rfl hbp (val_of rfl rfl) (HI.out.ph.step 5 _ (by decide) (by decide)) (by simp only [puts, setAll, List.set_cons_zero, List.set_cons_succ, List.setIfInBounds_toArray]))
    refine Steps.cons rfl (fun bb aa w' hbs hb0 hbp hI K hK => ?_) ?_
    · obtain ⟨us, hus, ha, hI⟩ := hI
      obtain ⟨u0, u1, u2, u3, u4, u5, u6, u7, u8, u9, u10, u11, u12, rfl⟩ := len13 hus
      have e5 : u5 = .int .i64 (n : Int) := hI.val 5 _ rfl (gen_after 5 (by kernel_rfl) hbp)
      subst e5
      have hst := hI.ph.at_ 0 6 rfl hb0 (.inl rfl)
      have HST := Veil.mk (show w' = WD from hst)
      have HEM := Veil.mk (empties_any n HNN.out w')
      clear hst
      have HI := Veil.mk hI
      clear hI
      rw [ha]
      simp only [puts, setAll, List.setIfInBounds_toArray, List.set_cons_zero, List.set_cons_succ]
      go_simp
      go_at_call 52
      refine HEM.out.mono ?_
      rintro e9 w9 ⟨rfl, hb9, hr9, hs9⟩
      go_simp
      exact hK _ _ (chain_step HI.out hus hbs 6 (.slice (some ⟨w'.heap.size, 0, none⟩) n n) (by show 6 < 13; decide) rfl hbp (val_of rfl (by rw [HST.out])) (HI.out.ph.next 0 6 _ rfl hb0 (.inl rfl) (by decide) (show Below WD.heap.size WD w9 ∧ EmR w9 WD.heap.size n ∧ w9.heap.size = WD.heap.size + 1 by rw [← HST.out]; exact ⟨hb9, hr9, hs9⟩)) (by simp only [puts, setAll, List.set_cons_zero, List.set_cons_succ, List.setIfInBounds_toArray]))
    refine Steps.cons rfl (fun bb aa w' hbs hb0 hbp hI K hK => ?_) ?_
    · obtain ⟨us, hus, ha, hI⟩ := hI
      obtain ⟨u0, u1, u2, u3, u4, u5, u6, u7, u8, u9, u10, u11, u12, rfl⟩ := len13 hus
      have HI := Veil.mk hI
      clear hI
      rw [ha]
      simp only [puts, setAll, List.setIfInBounds_toArray, List.set_cons_zero, List.set_cons_succ]
      go_simp
      exact hK _ _ (chain_step HI.out hus hbs 7 _ (by show 7 < 13; decide) rfl hbp (val_of rfl rfl) (HI.out.ph.step 7 _ (by decide) (by decide)) (by simp only [puts, setAll, List.set_cons_zero, List.set_cons_succ, List.setIfInBounds_toArray]))
    refine Steps.cons rfl (fun bb aa w' hbs hb0 hbp hI K hK => ?_) ?_
    · obtain ⟨us, hus, ha, hI⟩ := hI
      obtain ⟨u0, u1, u2, u3, u4, u5, u6, u7, u8, u9, u10, u11, u12, rfl⟩ := len13 hus
      have e6 : u6 = .slice (some ⟨WD.heap.size, 0, none⟩) n n := hI.val 6 _ rfl (gen_after 6 (by kernel_rfl) hbp)
      subst e6
      have e7 : u7 = .int .i64 up := hI.val 7 _ rfl (gen_after 7 (by kernel_rfl) hbp)
      subst e7
      have HI := Veil.mk hI
      clear hI
      rw [ha]
      simp only [puts, setAll, List.setIfInBounds_toArray, List.set_cons_zero, List.set_cons_succ]
      go_simp
      exact hK _ _ (chain_step HI.out hus hbs 8 _ (by show 8 < 13; decide) rfl hbp (val_of rfl rfl) (HI.out.ph.step 8 _ (by decide) (by decide)) (by simp only [puts, setAll, List.set_cons_zero, List.set_cons_succ, List.setIfInBounds_toArray]))
    refine Steps.cons rfl (fun bb aa w' hbs hb0 hbp hI K hK => ?_) ?_
    · obtain ⟨us, hus, ha, hI⟩ := hI
      obtain ⟨u0, u1, u2, u3, u4, u5, u6, u7, u8, u9, u10, u11, u12, rfl⟩ := len13 hus
      have e8 : u8 = .agg #[.slice (some ⟨WD.heap.size, 0, none⟩) n n, .int .i64 up] := hI.val 8 _ rfl (gen_after 8 (by kernel_rfl) hbp)
      subst e8
      have HB6 := hI.back 8 6 rfl (by kernel_rfl) (gen_after 8 (by kernel_rfl) hbp)
      have hst := hI.ph.at_ 1 9 rfl hb0 (.inr ⟨6, rfl, HB6⟩)
      have HST := Veil.mk (show Below WD.heap.size WD w' ∧ EmR w' WD.heap.size n ∧ w'.heap.size = WD.heap.size + 1 from hst)
      have hal : Below w'.heap.size w' (w'.alloc (.cells #[.slice (some ⟨WD.heap.size, 0, none⟩) n n, .int .i64 up] 47)) := (Below.refl _ _).alloc (Nat.le_refl _) _
      have bxn := Box.new w' 47 #[.slice (some ⟨WD.heap.size, 0, none⟩) n n, .int .i64 up]
      rw [HST.out.2.2] at bxn
      have HNX : Veil (Below WD.heap.size WD (w'.alloc (.cells #[.slice (some ⟨WD.heap.size, 0, none⟩) n n, .int .i64 up] 47)) ∧ EnvAt (w'.alloc (.cells #[.slice (some ⟨WD.heap.size, 0, none⟩) n n, .int .i64 up] 47)) (WD.heap.size + 1) WD.heap.size n up) := ⟨HST.out.1.trans (hal.mono HST.out.1.size), bxn, HST.out.2.1.on hal⟩
      clear hst hal bxn
      have HI := Veil.mk hI
      clear hI
      rw [ha]
      simp only [puts, setAll, List.setIfInBounds_toArray, List.set_cons_zero, List.set_cons_succ]
      go_simp
      exact hK _ _ (chain_step HI.out hus hbs 9 (.pointer (some ⟨w'.heap.size, 0, none⟩)) (by show 9 < 13; decide) rfl hbp (val_of rfl (by rw [HST.out.2.2])) (HI.out.ph.next 1 9 _ rfl hb0 (.inr ⟨6, rfl, HB6⟩) (by decide) HNX.out) (by simp only [puts, setAll, List.set_cons_zero, List.set_cons_succ, List.setIfInBounds_toArray]))
    refine Steps.cons rfl (fun bb aa w' hbs hb0 hbp hI K hK => ?_) ?_
    · obtain ⟨us, hus, ha, hI⟩ := hI
      obtain ⟨u0, u1, u2, u3, u4, u5, u6, u7, u8, u9, u10, u11, u12, rfl⟩ := len13 hus
      have e9 : u9 = .pointer (some ⟨WD.heap.size + 1, 0, none⟩) := hI.val 9 _ rfl (gen_after 9 (by kernel_rfl) hbp)
      subst e9
      have HI := Veil.mk hI
      clear hI
      rw [ha]
      simp only [puts, setAll, List.setIfInBounds_toArray, List.set_cons_zero, List.set_cons_succ]
      go_simp
      exact hK _ _ (chain_step HI.out hus hbs 10 _ (by show 10 < 13; decide) rfl hbp (val_of rfl rfl) (HI.out.ph.step 10 _ (by decide) (by decide)) (by simp only [puts, setAll, List.set_cons_zero, List.set_cons_succ, List.setIfInBounds_toArray]))
    refine Steps.cons rfl (fun bb aa w' hbs hb0 hbp hI K hK => ?_) ?_
    · obtain ⟨us, hus, ha, hI⟩ := hI
      obtain ⟨u0, u1, u2, u3, u4, u5, u6, u7, u8, u9, u10, u11, u12, rfl⟩ := len13 hus
      have e3 : u3 = .pointer (some ⟨A, 0, none⟩) := hI.val 3 _ rfl (gen_after 3 (by kernel_rfl) hbp)
      subst e3
      have e10 : u10 = nodeV (envB (WD.heap.size + 1)) := hI.val 10 _ rfl (gen_after 10 (by kernel_rfl) hbp)
      subst e10
      have HB9 := hI.back 10 9 rfl (by kernel_rfl) (gen_after 10 (by kernel_rfl) hbp)
      have hst := hI.ph.at_ 2 11 rfl hb0 (.inr ⟨9, rfl, HB9⟩)
      have HST := Veil.mk (show Below WD.heap.size WD w' ∧ EnvAt w' (WD.heap.size + 1) WD.heap.size n up from hst)
      have HM := Veil.mk (hp_make (HPD.out.on HST.out.1) (envB (WD.heap.size + 1)) HDD.out.1 HDD.out.2.1 HDD.out.2.2)
      clear hst
      have HI := Veil.mk hI
      clear hI
      rw [ha]
      simp only [puts, setAll, List.setIfInBounds_toArray, List.set_cons_zero, List.set_cons_succ]
      go_simp
      go_at_call 51
      refine HM.out.mono ?_
      rintro e9 w9 ⟨rfl, ht9, cv9, fv9, rv9, hp9, ho9⟩
      go_simp
      exact hK _ _ (chain_step HI.out hus hbs 11 (.int .i64 ((d.cells.length : Int) + 1)) (by show 11 < 13; decide) rfl hbp (val_of rfl rfl) (HI.out.ph.next 2 11 _ rfl hb0 (.inr ⟨9, rfl, HB9⟩) (by decide) (ScP.of HPD.out HST.out.1 HST.out.2 ht9 hp9 ho9)) (by simp only [puts, setAll, List.set_cons_zero, List.set_cons_succ, List.setIfInBounds_toArray]))
    refine Steps.cons rfl (fun bb aa w' hbs hb0 hbp hI K hK => ?_) ?_
    · obtain ⟨us, hus, ha, hI⟩ := hI
      obtain ⟨u0, u1, u2, u3, u4, u5, u6, u7, u8, u9, u10, u11, u12, rfl⟩ := len13 hus
      have e11 : u11 = .int .i64 ((d.cells.length : Int) + 1) := hI.val 11 _ rfl (gen_after 11 (by kernel_rfl) hbp)
      subst e11
      have HI := Veil.mk hI
      clear hI
      rw [ha]
      simp only [puts, setAll, List.setIfInBounds_toArray, List.set_cons_zero, List.set_cons_succ]
      go_simp
      exact hK _ _ (chain_step HI.out hus hbs 12 _ (by show 12 < 13; decide) rfl hbp (val_of rfl rfl) (HI.out.ph.step 12 _ (by decide) (by decide)) (by simp only [puts, setAll, List.set_cons_zero, List.set_cons_succ, List.setIfInBounds_toArray]))
    exact Steps.nil
  · intro us w9 hus dd hD2 hJ
    obtain ⟨p0, p1, p2, p3, p4, p5, p6, p7, p8, p9, p10, p11, p12, rfl⟩ := len13 hus
    have q1 := hJ.ph.all (fun c hc => hD2 c (by
      have : c = 6 ∨ c = 9 ∨ c = 11 := by simpa using hc
      show c < 13
      omega))
    replace q1 : ScP B h A cv fv rv d n up WD w9 := q1
    have e12 : p12 = .int .i64 ((d.cells.length : Int) + 1) := hJ.val 12 _ rfl (hD2 12 (by show 12 < 13; decide))
    subst e12
    have HQ := Veil.mk q1
    clear hJ hD2 q1
    simp only [puts, setAll, List.set_cons_zero, List.set_cons_succ, List.setIfInBounds_toArray]
    go_wp2
    go_ret
    exact ⟨rfl, WD, HBD.out.1, HBD.out.2, HQ.out⟩

def SySt (B h A : Nat) (cv fv rv : Value) (d : AD) (x : Vt) (WD : World) : Nat → (Nat → Value) → World → Prop
  | 0 => fun _ w => w = WD
  | 1 => fun _ w => w = WD.alloc (.cells #[.int .i64 x.1, .int .i64 x.2.1, .string x.2.2] 101)
  | _ => fun _ w' => Touch (AFoot A cv fv rv) WD w' ∧ ∃ cv' fv' rv', HpAt w' B h A cv' fv' rv' ⟨d.cells ++ [some (markB WD.heap.size)], [], d.count + 1, d.roots⟩ ∧ ∀ k, AFoot A cv' fv' rv' k → AFoot A cv fv rv k ∨ WD.heap.size ≤ k
theorem SySt.below {B h A : Nat} {cv fv rv : Value} {d : AD} {x : Vt} {WD w : World} {s : Nat} {f : Nat → Value} (hs : s ≤ 1) (hst : SySt B h A cv fv rv d x WD s f w) : Below WD.heap.size WD w := by
  match s, hs, hst with
  | 0, _, hst => rw [show w = WD from hst]; exact Below.refl _ _
  | 1, _, hst => rw [show w = WD.alloc _ from hst]; exact (Below.refl _ _).alloc (Nat.le_refl _) _
theorem symbol_mk (r : Int) (w : World) : Calls Tryz.prog 53 #[.int .i64 r] w fun e w' => e = .returned (valV (8, r, ⟨#[]⟩)) ∧ Below w.heap.size w w' := by
  obtain ⟨vb, hvb⟩ : ∃ vb, w.heap.size = vb := ⟨_, rfl⟩
  obtain ⟨W0, hW0⟩ : ∃ W0, w.alloc (.cells #[.int .i64 0, .int .i64 0, .string ⟨#[]⟩] 43) = W0 := ⟨_, rfl⟩
  have b1 := Box.new w 43 #[.int .i64 0, .int .i64 0, .string ⟨#[]⟩]
  have bb : Below w.heap.size w (w.alloc (.cells #[.int .i64 0, .int .i64 0, .string ⟨#[]⟩] 43)) := (Below.refl _ _).alloc (Nat.le_refl _) _
  rw [hW0] at b1 bb
  rw [hvb] at b1 bb ⊢
  have HW0 := Veil.mk (And.intro hW0 hvb)
  have HBB := Veil.mk (And.intro bb b1)
  have z0 : W0.cell? ⟨vb, 0, none⟩ = some (.int .i64 0) := b1.at_ 0
  have z1 : W0.cell? ⟨vb, 1, none⟩ = some (.int .i64 0) := b1.at_ 1
  have z2 : W0.cell? ⟨vb, 2, none⟩ = some (.string ⟨#[]⟩) := b1.at_ 2
  have f0 := b1.free 0
  have f1 := b1.free 1
  have f2 := b1.free 2
  clear hW0 hvb b1 bb
  go_enter Tryz.func53, Tryz.ntmps53
  go_upto_region 1 with (fail)
  rw [HW0.out.1, HW0.out.2]
  go_wp2
  have hr3 := ((HBB.out.2.put 0 (.int .i64 8)).put 1 (.int .i64 r)).put 2 (.string ⟨#[]⟩)
  have y0 := hr3.at_ 0
  have y1 := hr3.at_ 1
  have y2 := hr3.at_ 2
  exact bodyPost_ret (v := valV (8, r, ⟨#[]⟩)) (by simp [results, Tryz.results53, go_sem, y0, y1, y2]) rfl ⟨rfl, ((HBB.out.1.setCell (p := ⟨vb, 0, none⟩) (Nat.le_refl _) _).setCell (p := ⟨vb, 1, none⟩) (Nat.le_refl _) _).setCell (p := ⟨vb, 2, none⟩) (Nat.le_refl _) _⟩
set_option maxHeartbeats 4000000 in
set_option maxRecDepth 100000 in
theorem symbol_any {w : World} {B h A : Nat} {cv fv rv : Value} {d : AD} (hp : HpAt w B h A cv fv rv d) (hf : d.free = []) (hc : d.count < 1000000) (hl : d.cells.length < 1000000) (x : Vt) :
    Calls Tryz.prog 14 #[.pointer (some ⟨h, 0, none⟩), valV x] w fun e w' => e = .returned (valV (8, (d.cells.length : Int) + 1, ⟨#[]⟩)) ∧ Touch (fun k => AFoot A cv fv rv k ∨ w.heap.size ≤ k) w w' ∧ ∃ m, ∃ cv' fv' rv', HpAt w' B h A cv' fv' rv' ⟨d.cells ++ [some (markB m)], [], d.count + 1, d.roots⟩ ∧ ∀ k, AFoot A cv' fv' rv' k → AFoot A cv fv rv k ∨ w.heap.size ≤ k := by
  obtain ⟨kb, hkb⟩ : ∃ kb, w.heap.size = kb := ⟨_, rfl⟩
  obtain ⟨vb, hvb⟩ : ∃ vb, kb + 1 = vb := ⟨_, rfl⟩
  have b1 := (Box.new w 43 #[.int .i64 x.1, .int .i64 x.2.1, .string x.2.2]).more (.cells #[.int .i64 0, .int .i64 0, .string ⟨#[]⟩] 43)
  have b2 := Box.new (w.alloc (.cells #[.int .i64 x.1, .int .i64 x.2.1, .string x.2.2] 43)) 43 #[.int .i64 0, .int .i64 0, .string ⟨#[]⟩]
  have bb : Below w.heap.size w ((w.alloc (.cells #[.int .i64 x.1, .int .i64 x.2.1, .string x.2.2] 43)).alloc (.cells #[.int .i64 0, .int .i64 0, .string ⟨#[]⟩] 43)) := ((Below.refl _ _).alloc (Nat.le_refl _) _).alloc (by simp) _
  rw [World.size_alloc] at b2
  obtain ⟨W0, hW0⟩ : ∃ W0, ((w.alloc (.cells #[.int .i64 x.1, .int .i64 x.2.1, .string x.2.2] 43)).alloc (.cells #[.int .i64 0, .int .i64 0, .string ⟨#[]⟩] 43)) = W0 := ⟨_, rfl⟩
  rw [hW0] at b1 b2 bb
  have HW0 := Veil.mk (And.intro hW0 (And.intro hkb hvb))
  rw [hkb] at b1 b2
  rw [hvb] at b2
  have HB0 := Veil.mk (And.intro bb (And.intro b1 b2))
  have HPO := Veil.mk hp
  have HDD := Veil.mk (And.intro hf (And.intro hc hl))
  clear hp hf b1 b2 bb hW0 hkb hvb
  go_enter Tryz.func14, Tryz.ntmps14
  go_upto_region 1 with (fail)
  rw [HW0.out.1, HW0.out.2.1, HW0.out.2.2]
  go_upto_region 3 with (fail)
  obtain ⟨WD, hWD⟩ : ∃ WD, W0.drew = WD := ⟨_, rfl⟩
  have hbd : Below w.heap.size w WD := by rw [← hWD]; exact HB0.out.1.drew
  have HPD : Veil (HpAt WD B h A cv fv rv d) := ⟨HPO.out.on hbd⟩
  have HKB : Veil (Box WD kb 43 #[.int .i64 x.1, .int .i64 x.2.1, .string x.2.2]) := ⟨by rw [← hWD]; exact HB0.out.2.1.drew⟩
  have HVB : Veil (Box WD vb 43 #[.int .i64 0, .int .i64 0, .string ⟨#[]⟩]) := ⟨by rw [← hWD]; exact HB0.out.2.2.drew⟩
  have HBD := Veil.mk hbd
  have HWD := Veil.mk hWD
  clear hbd hWD HB0
  refine wp_region_chain ([some (· = .pointer (some ⟨h, 0, none⟩)), some (· = .pointer (some ⟨h, 0, none⟩)), some (· = .pointer (some ⟨h, 0, none⟩)), some (· = .pointer (some ⟨A, 0, none⟩)), some (· = valV x), some (· = valV x), some (· = .pointer (some ⟨WD.heap.size, 0, none⟩)), some (· = nodeV (markB WD.heap.size)), some (· = .int .i64 ((d.cells.length : Int) + 1)), some (· = .int .i64 ((d.cells.length : Int) + 1))] : List (Option (Value → Prop))) (LPh [6, 8] (SySt B h A cv fv rv d x WD)) [some 9, some 10, some 11, some 12, some 13, some 14, some 15, some 16, some 17, some 5] (curV' _ [some 9, some 10, some 11, some 12, some 13, some 14, some 15, some 16, some 17, some 5]) (by kernel_rfl) rfl rfl (puts_cur _ _) (LPh.start (show W0.drew = WD from HWD.out)) ?_ (by kernel_rfl) ?_
  · refine Steps.cons rfl (fun bb aa w' hbs hb0 hbp hI K hK => ?_) ?_
    · obtain ⟨us, hus, ha, hI⟩ := hI
      obtain ⟨u0, u1, u2, u3, u4, u5, u6, u7, u8, u9, rfl⟩ := len10 hus
      have HI := Veil.mk hI
      clear hI
      rw [ha]
      simp only [puts, setAll, List.setIfInBounds_toArray, List.set_cons_zero, List.set_cons_succ]
      go_simp
      exact hK _ _ (chain_step HI.out hus hbs 0 _ (by show 0 < 10; decide) rfl hbp (val_of rfl rfl) (HI.out.ph.step 0 _ (by decide) (by decide)) (by simp only [puts, setAll, List.set_cons_zero, List.set_cons_succ, List.setIfInBounds_toArray]))
    refine Steps.cons rfl (fun bb aa w' hbs hb0 hbp hI K hK => ?_) ?_
    · obtain ⟨us, hus, ha, hI⟩ := hI
      obtain ⟨u0, u1, u2, u3, u4, u5, u6, u7, u8, u9, rfl⟩ := len10 hus
      have e0 : u0 = .pointer (some ⟨h, 0, none⟩) := hI.val 0 _ rfl (gen_after 0 (by kernel_rfl) hbp)
      subst e0
      have HI := Veil.mk hI
      clear hI
      rw [ha]
      simp only [puts, setAll, List.setIfInBounds_toArray, List.set_cons_zero, List.set_cons_succ]
      go_simp
      exact hK _ _ (chain_step HI.out hus hbs 1 _ (by show 1 < 10; decide) rfl hbp (val_of rfl rfl) (HI.out.ph.step 1 _ (by decide) (by decide)) (by simp only [puts, setAll, List.set_cons_zero, List.set_cons_succ, List.setIfInBounds_toArray]))
    refine Steps.cons rfl (fun bb aa w' hbs hb0 hbp hI K hK => ?_) ?_
    · obtain ⟨us, hus, ha, hI⟩ := hI
      obtain ⟨u0, u1, u2, u3, u4, u5, u6, u7, u8, u9, rfl⟩ := len10 hus
      have e1 : u1 = .pointer (some ⟨h, 0, none⟩) := hI.val 1 _ rfl (gen_after 1 (by kernel_rfl) hbp)
      subst e1
      have HI := Veil.mk hI
      clear hI
      rw [ha]
      simp only [puts, setAll, List.setIfInBounds_toArray, List.set_cons_zero, List.set_cons_succ]
      go_simp
      exact hK _ _ (chain_step HI.out hus hbs 2 _ (by show 2 < 10; decide) rfl hbp (val_of rfl rfl) (HI.out.ph.step 2 _ (by decide) (by decide)) (by simp only [puts, setAll, List.set_cons_zero, List.set_cons_succ, List.setIfInBounds_toArray]))
    refine Steps.cons rfl (fun bb aa w' hbs hb0 hbp hI K hK => ?_) ?_
    · obtain ⟨us, hus, ha, hI⟩ := hI
      obtain ⟨u0, u1, u2, u3, u4, u5, u6, u7, u8, u9, rfl⟩ := len10 hus
      have e2 : u2 = .pointer (some ⟨h, 0, none⟩) := hI.val 2 _ rfl (gen_after 2 (by kernel_rfl) hbp)
      subst e2
      have h8 := hI.before 8 3 rfl (by kernel_rfl) hb0
      obtain ⟨sg, hsg, hstg⟩ := hI.ph.le 1 8 rfl h8
      have hbl := SySt.below hsg hstg
      have c0 : w'.cell? ⟨h, 0, none⟩ = some (.pointer (some ⟨A, 0, none⟩)) := (HPD.out.hb.below hbl).at_ 0
      clear hstg hbl
      have HI := Veil.mk hI
      clear hI h8
      rw [ha]
      simp only [puts, setAll, List.setIfInBounds_toArray, List.set_cons_zero, List.set_cons_succ]
      go_simp
      exact hK _ _ (chain_step HI.out hus hbs 3 _ (by show 3 < 10; decide) rfl hbp (val_of rfl rfl) (HI.out.ph.step 3 _ (by decide) (by decide)) (by simp only [puts, setAll, List.set_cons_zero, List.set_cons_succ, List.setIfInBounds_toArray]))
    refine Steps.cons rfl (fun bb aa w' hbs hb0 hbp hI K hK => ?_) ?_
    · obtain ⟨us, hus, ha, hI⟩ := hI
      obtain ⟨u0, u1, u2, u3, u4, u5, u6, u7, u8, u9, rfl⟩ := len10 hus
      have h5 := hI.before 5 4 rfl (by kernel_rfl) hb0
      have h6 := hI.before 6 5 rfl (by kernel_rfl) h5
      have hst := hI.ph.at_ 0 6 rfl h6 (.inl rfl)
      clear h6 h5
      have c0 : w'.cell? ⟨kb, 0, none⟩ = some (.int .i64 x.1) := by rw [show w' = WD from hst]; exact HKB.out.at_ 0
      have c1 : w'.cell? ⟨kb, 1, none⟩ = some (.int .i64 x.2.1) := by rw [show w' = WD from hst]; exact HKB.out.at_ 1
      have c2 : w'.cell? ⟨kb, 2, none⟩ = some (.string x.2.2) := by rw [show w' = WD from hst]; exact HKB.out.at_ 2
      have HI := Veil.mk hI
      clear hI
      rw [ha]
      simp only [puts, setAll, List.setIfInBounds_toArray, List.set_cons_zero, List.set_cons_succ]
      go_simp
      exact hK _ _ (chain_step HI.out hus hbs 4 _ (by show 4 < 10; decide) rfl hbp (val_of rfl rfl) (HI.out.ph.step 4 _ (by decide) (by decide)) (by simp only [puts, setAll, List.set_cons_zero, List.set_cons_succ, List.setIfInBounds_toArray]))
    refine Steps.cons rfl (fun bb aa w' hbs hb0 hbp hI K hK => ?_) ?_
    · obtain ⟨us, hus, ha, hI⟩ := hI
      obtain ⟨u0, u1, u2, u3, u4, u5, u6, u7, u8, u9, rfl⟩ := len10 hus
      have e4 : u4 = valV x := hI.val 4 _ rfl (gen_after 4 (by kernel_rfl) hbp)
      subst e4
      have HI := Veil.mk hI
      clear hI
      rw [ha]
      simp only [puts, setAll, List.setIfInBounds_toArray, List.set_cons_zero, List.set_cons_succ]
      go_simp
      exact hK _ _ (chain_step HI.out hus hbs 5 _ (by show 5 < 10; decide) rfl hbp (val_of rfl rfl) (HI.out.ph.step 5 _ (by decide) (by decide)) (by simp only [puts, setAll, List.set_cons_zero, List.set_cons_succ, List.setIfInBounds_toArray]))
    refine Steps.cons rfl (fun bb aa w' hbs hb0 hbp hI K hK => ?_) ?_
    · obtain ⟨us, hus, ha, hI⟩ := hI
      obtain ⟨u0, u1, u2, u3, u4, u5, u6, u7, u8, u9, rfl⟩ := len10 hus
      have e5 : u5 = valV x := hI.val 5 _ rfl (gen_after 5 (by kernel_rfl) hbp)
      subst e5
      have hst := hI.ph.at_ 0 6 rfl hb0 (.inl rfl)
      have HST := Veil.mk (show w' = WD from hst)
      clear hst
      have HI := Veil.mk hI
      clear hI
      rw [ha]
      simp only [puts, setAll, List.setIfInBounds_toArray, List.set_cons_zero, List.set_cons_succ]
      go_simp
      exact hK _ _ (chain_step HI.out hus hbs 6 (.pointer (some ⟨w'.heap.size, 0, none⟩)) (by show 6 < 10; decide) rfl hbp (val_of rfl (by rw [HST.out])) (HI.out.ph.next 0 6 _ rfl hb0 (.inl rfl) (by decide) (show _ = WD.alloc (.cells #[.int .i64 x.1, .int .i64 x.2.1, .string x.2.2] 101) by rw [HST.out])) (by simp only [puts, setAll, List.set_cons_zero, List.set_cons_succ, List.setIfInBounds_toArray]))
    refine Steps.cons rfl (fun bb aa w' hbs hb0 hbp hI K hK => ?_) ?_
    · obtain ⟨us, hus, ha, hI⟩ := hI
      obtain ⟨u0, u1, u2, u3, u4, u5, u6, u7, u8, u9, rfl⟩ := len10 hus
      have e6 : u6 = .pointer (some ⟨WD.heap.size, 0, none⟩) := hI.val 6 _ rfl (gen_after 6 (by kernel_rfl) hbp)
      subst e6
      have HI := Veil.mk hI
      clear hI
      rw [ha]
      simp only [puts, setAll, List.setIfInBounds_toArray, List.set_cons_zero, List.set_cons_succ]
      go_simp
      exact hK _ _ (chain_step HI.out hus hbs 7 _ (by show 7 < 10; decide) rfl hbp (val_of rfl rfl) (HI.out.ph.step 7 _ (by decide) (by decide)) (by simp only [puts, setAll, List.set_cons_zero, List.set_cons_succ, List.setIfInBounds_toArray]))
    refine Steps.cons rfl (fun bb aa w' hbs hb0 hbp hI K hK => ?_) ?_
    · obtain ⟨us, hus, ha, hI⟩ := hI
      obtain ⟨u0, u1, u2, u3, u4, u5, u6, u7, u8, u9, rfl⟩ := len10 hus
      have e3 : u3 = .pointer (some ⟨A, 0, none⟩) := hI.val 3 _ rfl (gen_after 3 (by kernel_rfl) hbp)
      subst e3
      have e7 : u7 = nodeV (markB WD.heap.size) := hI.val 7 _ rfl (gen_after 7 (by kernel_rfl) hbp)
      subst e7
      have HB6 := hI.back 7 6 rfl (by kernel_rfl) (gen_after 7 (by kernel_rfl) hbp)
      have hst := hI.ph.at_ 1 8 rfl hb0 (.inr ⟨6, rfl, HB6⟩)
      have HST := Veil.mk (show w' = WD.alloc (.cells #[.int .i64 x.1, .int .i64 x.2.1, .string x.2.2] 101) from hst)
      have hal : Below WD.heap.size WD w' := by rw [HST.out]; exact (Below.refl _ _).alloc (Nat.le_refl _) _
      have HM := Veil.mk (hp_make (HPD.out.on hal) (markB WD.heap.size) HDD.out.1 HDD.out.2.1 HDD.out.2.2)
      have HAL := Veil.mk hal
      clear hst hal
      have HI := Veil.mk hI
      clear hI
      rw [ha]
      simp only [puts, setAll, List.setIfInBounds_toArray, List.set_cons_zero, List.set_cons_succ]
      go_simp
      go_at_call 51
      refine HM.out.mono ?_
      rintro e9 w9 ⟨rfl, ht9, cv9, fv9, rv9, hp9, ho9⟩
      go_simp
      exact hK _ _ (chain_step HI.out hus hbs 8 (.int .i64 ((d.cells.length : Int) + 1)) (by show 8 < 10; decide) rfl hbp (val_of rfl rfl) (HI.out.ph.next 1 8 _ rfl hb0 (.inr ⟨6, rfl, HB6⟩) (by decide) ⟨(Touch.of_below HAL.out).trans ht9, cv9, fv9, rv9, hp9, fun k hk => (ho9 k hk).imp id (fun h => Nat.le_trans HAL.out.size h)⟩) (by simp only [puts, setAll, List.set_cons_zero, List.set_cons_succ, List.setIfInBounds_toArray]))
    refine Steps.cons rfl (fun bb aa w' hbs hb0 hbp hI K hK => ?_) ?_
    · obtain ⟨us, hus, ha, hI⟩ := hI
      obtain ⟨u0, u1, u2, u3, u4, u5, u6, u7, u8, u9, rfl⟩ := len10 hus
      have e8 : u8 = .int .i64 ((d.cells.length : Int) + 1) := hI.val 8 _ rfl (gen_after 8 (by kernel_rfl) hbp)
      subst e8
      have HI := Veil.mk hI
      clear hI
      rw [ha]
      simp only [puts, setAll, List.setIfInBounds_toArray, List.set_cons_zero, List.set_cons_succ]
      go_simp
      exact hK _ _ (chain_step HI.out hus hbs 9 _ (by show 9 < 10; decide) rfl hbp (val_of rfl rfl) (HI.out.ph.step 9 _ (by decide) (by decide)) (by simp only [puts, setAll, List.set_cons_zero, List.set_cons_succ, List.setIfInBounds_toArray]))
    exact Steps.nil
  · intro us w9 hus dd hD2 hJ
    obtain ⟨p0, p1, p2, p3, p4, p5, p6, p7, p8, p9, rfl⟩ := len10 hus
    have q1 := hJ.ph.all (fun c hc => hD2 c (by
      have : c = 6 ∨ c = 8 := by simpa using hc
      show c < 10
      omega))
    obtain ⟨ht9, cv9, fv9, rv9, hp9, ho9⟩ := q1
    have e9 : p9 = .int .i64 ((d.cells.length : Int) + 1) := hJ.val 9 _ rfl (hD2 9 (by show 9 < 10; decide))
    subst e9
    have hvb9 := HVB.out.touch ht9 (AFoot.lab HPD.out.ar HVB.out.lab (by decide) (by decide) (by decide))
    have HV9 := Veil.mk hvb9
    have hne : (((d.cells.length : Int) + 1) == 0) = false := beq_eq_false_iff_ne.2 (by omega)
    have HSM := Veil.mk (fun w => symbol_mk ((d.cells.length : Int) + 1) w)
    have HF9 := Veil.mk (And.intro ht9 (And.intro hp9 ho9))
    clear hJ hD2 ht9 hp9 ho9 hvb9
    simp only [puts, setAll, List.set_cons_zero, List.set_cons_succ, List.setIfInBounds_toArray]
    go_wp2_with (go_at_call 53; ((with_reducible refine (HSM.out _).mono ?_); rintro e w8 ⟨rfl, hb8⟩; have HV8 := Veil.mk (HV9.out.below hb8); have f0 := HV8.out.free 0; have f1 := HV8.out.free 1; have f2 := HV8.out.free 2; have z0 : w8.cell? ⟨vb, 0, none⟩ = some (.int .i64 0) := HV8.out.at_ 0; have z1 : w8.cell? ⟨vb, 1, none⟩ = some (.int .i64 0) := HV8.out.at_ 1; have z2 : w8.cell? ⟨vb, 2, none⟩ = some (.string ⟨#[]⟩) := HV8.out.at_ 2; have HB8 := Veil.mk hb8; clear hb8))
    obtain ⟨ht9, hp9, ho9⟩ := HF9.out
    have hp8 := hp9.on HB8.out
    have hr3 := ((HV8.out.put 0 (.int .i64 8)).put 1 (.int .i64 ((d.cells.length : Int) + 1))).put 2 (.string ⟨#[]⟩)
    have t3 : Touch (fun k => k = vb) w8 (((w8.setCell ⟨vb, 0, none⟩ (.int .i64 8)).setCell ⟨vb, 1, none⟩ (.int .i64 ((d.cells.length : Int) + 1))).setCell ⟨vb, 2, none⟩ (.string ⟨#[]⟩)) := ((Touch.put (S := fun k => k = vb) rfl _ _).trans (Touch.put (S := fun k => k = vb) rfl _ _)).trans (Touch.put (S := fun k => k = vb) rfl _ _)
    have hvk : w.heap.size ≤ vb := by have := HW0.out.2.1; have := HW0.out.2.2; omega
    have lv := HV8.out.lab
    have y0 := hr3.at_ 0
    have y1 := hr3.at_ 1
    have y2 := hr3.at_ 2
    have hfin : Touch (fun k => AFoot A cv fv rv k ∨ w.heap.size ≤ k) w (((w8.setCell ⟨vb, 0, none⟩ (.int .i64 8)).setCell ⟨vb, 1, none⟩ (.int .i64 ((d.cells.length : Int) + 1))).setCell ⟨vb, 2, none⟩ (.string ⟨#[]⟩)) := ((((Touch.of_below HBD.out).trans ht9).trans (Touch.of_below HB8.out)).mono (fun k hk => .inl hk)).trans (t3.mono (fun k hk => .inr (by rw [hk]; exact hvk)))
    exact bodyPost_ret (v := valV (8, (d.cells.length : Int) + 1, ⟨#[]⟩)) (by simp [results, Tryz.results14, go_sem, y0, y1, y2]) rfl ⟨rfl, hfin, WD.heap.size, cv9, fv9, rv9, ⟨hp8.hb.touch t3 (fun e => hp8.hb.lab.ne lv (by decide) e), hp8.ar.touch t3 (fun k hk e => AFoot.lab hp8.ar lv (by decide) (by decide) (by decide) (by rw [← e]; exact hk)), hp8.hB⟩, fun k hk => (ho9 k hk).imp id (fun h => Nat.le_trans HBD.out.size h)⟩
end Go.Proofs.YtbeapojjbgkalaaGreatDoor
