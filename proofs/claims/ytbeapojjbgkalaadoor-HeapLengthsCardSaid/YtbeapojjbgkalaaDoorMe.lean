/- Package heap: setLength, setElement. -/
import Derived.Test.YtbeapojjbgkalaaDoorMd
import Derived.Test.YtbeapojjbgkalaaDoorHd
namespace Go.Proofs.YtbeapojjbgkalaaDoor
open Go Go.RowKit

/-- What a call leaves of the elements, one of them known. -/
def ElQ (w : World) (B o : Nat) (proto : Int) (ev : Value) (n' i : Nat) (v : Vt) (w' : World) : Prop := ∃ ev' xs', Box w' o 38 (objC 1 proto false (.pointer none) ev') ∧ EL w' B ev' n' xs' ∧ xs' i = v ∧ Touch (fun k => k = o ∨ ev.ownBlock = some k) w w' ∧ ∀ k, ev'.ownBlock = some k → ev.ownBlock = some k ∨ w.heap.size ≤ k
theorem ElQ.elp {w : World} {B o : Nat} {proto : Int} {ev : Value} {n' i : Nat} {v : Vt} {w' : World} (h : ElQ w B o proto ev n' i v w') : ElP w B o proto ev n' w' := by
  obtain ⟨a, b, c, d, _, e⟩ := h
  exact ⟨a, b, c, d, e⟩
def SeSt (g i : Nat) (v : Vt) (WD : World) : Nat → (Nat → Value) → World → Prop
  | 0 => fun _ w => w = WD
  | _ => fun _ w => w = ((WD.setCell ⟨g, i * 3, none⟩ (.int .i64 v.1)).setCell ⟨g, i * 3 + 1, none⟩ (.int .i64 v.2.1)).setCell ⟨g, i * 3 + 2, none⟩ (.string v.2.2)
theorem EL.own_lt {w : World} {B n : Nat} {ev : Value} {xs : Nat → Vt} (h : EL w B ev n xs) (k : Nat) (hk : ev.ownBlock = some k) : B ≤ k ∧ k < w.heap.size ∧ Lab w k 45 := by
  rcases h with ⟨rfl, _⟩ | ⟨g, cap, rfl, h⟩
  · cases hk
  · cases hk; exact ⟨h.lo, h.lt, h.lab⟩
theorem EL.on {w w' : World} {B n : Nat} {ev : Value} {xs : Nat → Vt} (h : EL w B ev n xs) (hb : Below w.heap.size w w') : EL w' B ev n xs := h.imp id (fun ⟨g, cap, e, h⟩ => ⟨g, cap, e, h.on hb⟩)
theorem EL.evs {w : World} {B n : Nat} {ev : Value} {xs : Nat → Vt} (h : EL w B ev n xs) : ∃ ao cap, ev = .slice ao n cap := by
  rcases h with ⟨e1, e2⟩ | ⟨g, cap, e1, _⟩
  · exact ⟨none, 0, by rw [e1, e2]⟩
  · exact ⟨_, _, e1⟩
set_option maxRecDepth 100000 in
theorem setLen_ok {w : World} {B o n : Nat} {proto : Int} {ev : Value} {xs : Nat → Vt} (hb : Box w o 38 (objC 1 proto false (.pointer none) ev)) (he : EL w B ev n xs) (hB : B ≤ w.heap.size) (n' : Nat) (hn : n' ≤ 10000) :
    Calls Tryd.prog 49 #[.pointer (some ⟨o, 0, none⟩), valV (3, (n' : Int), ⟨#[]⟩), .int .i64 1] w fun e w' => e = .returned (.bool true) ∧ ElP w B o proto ev n' w' := by
  have hal : Below w.heap.size w (w.alloc (.cells #[.int .i64 3, .int .i64 (n' : Int), .string ⟨#[]⟩] 45)) := (Below.refl _ _).alloc (Nat.le_refl _) _
  have HRS := Veil.mk (resize_any (hb.below hal) (he.on hal) (Nat.le_trans hB hal.size) n' hn)
  have HAL := Veil.mk hal
  have hn0 : (0 : Int) ≤ (n' : Int) := by omega
  have hn1 : ¬ (10000 : Int) < (n' : Int) := by omega
  clear hb he hal
  go_enter Tryd.func49, Tryd.ntmps49
  go_wp2_with (go_at_call 67; ((with_reducible refine HRS.out.mono ?_); rintro e w2 ⟨rfl, hp⟩))
  go_ret
  obtain ⟨ev', xs', h1, h2, h3, h4⟩ := hp
  refine ⟨rfl, ev', xs', h1, h2, (Touch.of_below HAL.out).trans h3, fun k hk => (h4 k hk).imp id (fun h => ?_)⟩
  have := HAL.out.size
  omega
set_option maxRecDepth 100000 in
theorem setLen_str {w : World} {o : Nat} :
    Calls Tryd.prog 49 #[.pointer (some ⟨o, 0, none⟩), valV (7, 0, ⟨#[]⟩), .int .i64 1] w fun e w' => e = .returned (.bool false) ∧ Below w.heap.size w w' := by
  have hal : Below w.heap.size w (w.alloc (.cells #[.int .i64 7, .int .i64 0, .string ⟨#[]⟩] 45)) := (Below.refl _ _).alloc (Nat.le_refl _) _
  go_enter Tryd.func49, Tryd.ntmps49
  go_wp2
  go_ret
  exact ⟨rfl, hal⟩
set_option maxRecDepth 100000 in
theorem setLen_bad {w : World} {o : Nat} (m : Int) (hv : m < 0 ∨ 10000 < m) :
    Calls Tryd.prog 49 #[.pointer (some ⟨o, 0, none⟩), valV (3, m, ⟨#[]⟩), .int .i64 1] w fun e w' => e = .returned (.bool false) ∧ Below w.heap.size w w' := by
  have hal : Below w.heap.size w (w.alloc (.cells #[.int .i64 3, .int .i64 m, .string ⟨#[]⟩] 45)) := (Below.refl _ _).alloc (Nat.le_refl _) _
  by_cases hn : m < 0
  · clear hv
    go_enter Tryd.func49, Tryd.ntmps49
    go_wp2
    go_ret
    exact ⟨rfl, hal⟩
  · have hn2 : 10000 < m := by omega
    have hn' : ¬ m < 0 := hn
    clear hv
    go_enter Tryd.func49, Tryd.ntmps49
    go_wp2
    go_ret
    exact ⟨rfl, hal⟩
set_option maxHeartbeats 2000000 in
set_option maxRecDepth 100000 in
theorem setEl_grow {w : World} {B o n : Nat} {proto : Int} {ev : Value} {xs : Nat → Vt} (hb : Box w o 38 (objC 1 proto false (.pointer none) ev)) (he : EL w B ev n xs) (hB : B ≤ w.heap.size) (i : Nat) (hi : i < 10000) (hin : n ≤ i) (v : Vt) :
    Calls Tryd.prog 50 #[.pointer (some ⟨o, 0, none⟩), .int .i64 (i : Int), valV v, .int .i64 7] w fun e w' => e = .returned (.bool true) ∧ ElQ w B o proto ev (i + 1) i v w' := by
  obtain ⟨vb, hvb⟩ : ∃ vb, w.heap.size = vb := ⟨_, rfl⟩
  have bv := Box.new w 45 #[.int .i64 v.1, .int .i64 v.2.1, .string v.2.2]
  have hal : Below w.heap.size w (w.alloc (.cells #[.int .i64 v.1, .int .i64 v.2.1, .string v.2.2] 45)) := (Below.refl _ _).alloc (Nat.le_refl _) _
  obtain ⟨W0, hW0⟩ : ∃ W0, w.alloc (.cells #[.int .i64 v.1, .int .i64 v.2.1, .string v.2.2] 45) = W0 := ⟨_, rfl⟩
  rw [hW0] at bv hal
  have hb0 := hb.below hal
  have he0 := he.on hal
  have hB0 := Nat.le_trans hB hal.size
  rw [hvb] at bv
  have HW0 := Veil.mk (And.intro hW0 hvb)
  obtain ⟨ao, cap0, hev⟩ := he.evs
  have o4 : W0.cell? ⟨o, 4, none⟩ = some (.slice ao n cap0) := by rw [← hev]; exact hb0.at_ 4
  have hin' : (n : Int) ≤ (i : Int) := by omega
  have HRS : Veil (Calls Tryd.prog 67 #[.pointer (some ⟨o, 0, none⟩), .int .i64 ((i : Int) + 1)] W0 fun e w' => e = .returned (.tuple #[]) ∧ ElP W0 B o proto ev (i + 1) w') := ⟨by have := resize_any hb0 he0 hB0 (i + 1) (by omega); rwa [show ((i + 1 : Nat) : Int) = (i : Int) + 1 by omega] at this⟩
  have HOV := Veil.mk (And.intro he (And.intro hal (And.intro bv hb.lt)))
  have hi9 : (i : Int) < 10000 := by omega
  clear hb he bv hal hb0 he0 hB0 hW0 hvb hev
  go_enter Tryd.func50, Tryd.ntmps50
  go_upto_region 1 with (fail)
  rw [HW0.out.1, HW0.out.2]
  go_upto_region 5 with (go_at_call 67; ((with_reducible refine HRS.out.mono ?_); rintro e W1 ⟨rfl, hp⟩))
  clear o4
  obtain ⟨ev', xs1, h1, h2, h3, h4⟩ := hp
  obtain ⟨hev, hal, hbv, hol⟩ := HOV.out
  obtain ⟨g, cap, rfl, h2g⟩ : ∃ g cap, ev' = .slice (some ⟨g, 0, none⟩) (i + 1) cap ∧ ELg W1 B g (i + 1) cap xs1 := by
    rcases h2 with ⟨_, e2⟩ | ⟨g, cap, e1, he⟩
    · omega
    · exact ⟨g, cap, e1, he⟩
  obtain ⟨n1, hn1⟩ : ∃ n1, n1 = i + 1 := ⟨_, rfl⟩
  rw [← hn1] at h1 h2g h4
  have hvb1 : Box W1 vb 45 #[.int .i64 v.1, .int .i64 v.2.1, .string v.2.2] := hbv.touch h3 (fun e => by
    have hvs := HW0.out.2
    rcases e with e | e
    · omega
    · have := (hev.own_lt vb e).2.1
      omega)
  have HX := Veil.mk (And.intro h1 (And.intro h2g (And.intro (show i < n1 by omega) (And.intro hvb1 (And.intro ((Touch.of_below hal).trans h3) (show ∀ k, (Value.slice (some ⟨g, 0, none⟩) n1 cap).ownBlock = some k → ev.ownBlock = some k ∨ w.heap.size ≤ k from fun k hk => (h4 k hk).imp id (fun h => by have := hal.size; omega)))))))
  have HN1 := Veil.mk hn1
  clear h1 h2 h2g h3 h4 hvb1 hev hal hbv hol hn1
  obtain ⟨hboX, helX, hin1, hvbX, htX, hfX⟩ := HX.out
  obtain ⟨WD, hWD⟩ : ∃ WD, W1.drew = WD := ⟨_, rfl⟩
  have HOB : Veil (Box WD o 38 (objC 1 proto false (.pointer none) (.slice (some ⟨g, 0, none⟩) n1 cap))) := ⟨by rw [← hWD]; exact hboX.drew⟩
  have HEL : Veil (ELg WD B g n1 cap xs1) := ⟨by rw [← hWD]; exact helX.on (Below.refl _ _).drew⟩
  have HVB : Veil (Box WD vb 45 #[.int .i64 v.1, .int .i64 v.2.1, .string v.2.2]) := ⟨by rw [← hWD]; exact hvbX.drew⟩
  have HTC : Veil (Touch (fun k => k = o ∨ ev.ownBlock = some k) w WD) := ⟨by rw [← hWD]; exact htX.trans (Touch.of_below (Below.refl _ _).drew)⟩
  have HIC : Veil (i < cap) := ⟨by have := helX.le; omega⟩
  have HFX := Veil.mk hfX
  have HWD := Veil.mk hWD
  have hi00 : (0 : Int) ≤ (i : Int) := by omega
  have hin2 : (i : Int) < (n1 : Int) := by omega
  clear hWD HX hboX helX hvbX htX hfX
  refine wp_region_chain ([some (· = .pointer (some ⟨o, 0, none⟩)), some (· = .pointer (some ⟨o, 0, none⟩)), some (· = .pointer (some ⟨o, 4, none⟩)), some (· = .slice (some ⟨g, 0, none⟩) n1 cap), some (· = .int .i64 (i : Int)), some (· = valV v), some (· = .pointer (some ⟨g, i * 3, none⟩)), none] : List (Option (Value → Prop))) (LPh [7] (SeSt g i v WD)) [some 22, some 23, some 24, some 25, some 26, some 27, some 28, none] (curV' _ [some 22, some 23, some 24, some 25, some 26, some 27, some 28, none]) (by kernel_rfl) rfl rfl (puts_cur _ _) (LPh.start (show W1.drew = WD from HWD.out)) ?_ (by kernel_rfl) ?_
  · refine Steps.cons rfl (fun bb aa w' hbs hb0 hbp hI K hK => ?_) ?_
    · obtain ⟨us, hus, ha, hI⟩ := hI
      obtain ⟨u0, u1, u2, u3, u4, u5, u6, u7, rfl⟩ := len8 hus
      have HI := Veil.mk hI
      clear hI
      rw [ha]
      simp only [puts, setAll, List.setIfInBounds_toArray, List.set_cons_zero, List.set_cons_succ]
      go_simp
      exact hK _ _ (chain_step HI.out hus hbs 0 _ (by show 0 < 8; decide) rfl hbp (val_of rfl rfl) (HI.out.ph.step 0 _ (by decide) (by decide)) (by simp only [puts, setAll, List.set_cons_zero, List.set_cons_succ, List.setIfInBounds_toArray]))
    refine Steps.cons rfl (fun bb aa w' hbs hb0 hbp hI K hK => ?_) ?_
    · obtain ⟨us, hus, ha, hI⟩ := hI
      obtain ⟨u0, u1, u2, u3, u4, u5, u6, u7, rfl⟩ := len8 hus
      have e0 : u0 = .pointer (some ⟨o, 0, none⟩) := hI.val 0 _ rfl (gen_after 0 (by kernel_rfl) hbp)
      subst e0
      have HI := Veil.mk hI
      clear hI
      rw [ha]
      simp only [puts, setAll, List.setIfInBounds_toArray, List.set_cons_zero, List.set_cons_succ]
      go_simp
      exact hK _ _ (chain_step HI.out hus hbs 1 _ (by show 1 < 8; decide) rfl hbp (val_of rfl rfl) (HI.out.ph.step 1 _ (by decide) (by decide)) (by simp only [puts, setAll, List.set_cons_zero, List.set_cons_succ, List.setIfInBounds_toArray]))
    refine Steps.cons rfl (fun bb aa w' hbs hb0 hbp hI K hK => ?_) ?_
    · obtain ⟨us, hus, ha, hI⟩ := hI
      obtain ⟨u0, u1, u2, u3, u4, u5, u6, u7, rfl⟩ := len8 hus
      have e1 : u1 = .pointer (some ⟨o, 0, none⟩) := hI.val 1 _ rfl (gen_after 1 (by kernel_rfl) hbp)
      subst e1
      have HI := Veil.mk hI
      clear hI
      rw [ha]
      simp only [puts, setAll, List.setIfInBounds_toArray, List.set_cons_zero, List.set_cons_succ]
      go_simp
      exact hK _ _ (chain_step HI.out hus hbs 2 _ (by show 2 < 8; decide) rfl hbp (val_of rfl rfl) (HI.out.ph.step 2 _ (by decide) (by decide)) (by simp only [puts, setAll, List.set_cons_zero, List.set_cons_succ, List.setIfInBounds_toArray]))
    refine Steps.cons rfl (fun bb aa w' hbs hb0 hbp hI K hK => ?_) ?_
    · obtain ⟨us, hus, ha, hI⟩ := hI
      obtain ⟨u0, u1, u2, u3, u4, u5, u6, u7, rfl⟩ := len8 hus
      have e2 : u2 = .pointer (some ⟨o, 4, none⟩) := hI.val 2 _ rfl (gen_after 2 (by kernel_rfl) hbp)
      subst e2
      have h7 := hI.before 7 3 rfl (by kernel_rfl) hb0
      have hst := hI.ph.at_ 0 7 rfl h7 (.inl rfl)
      clear h7
      have c0 : w'.cell? ⟨o, 4, none⟩ = some (.slice (some ⟨g, 0, none⟩) n1 cap) := by rw [show w' = WD from hst]; exact HOB.out.at_ 4
      have HI := Veil.mk hI
      clear hI
      rw [ha]
      simp only [puts, setAll, List.setIfInBounds_toArray, List.set_cons_zero, List.set_cons_succ]
      go_simp
      exact hK _ _ (chain_step HI.out hus hbs 3 _ (by show 3 < 8; decide) rfl hbp (val_of rfl rfl) (HI.out.ph.step 3 _ (by decide) (by decide)) (by simp only [puts, setAll, List.set_cons_zero, List.set_cons_succ, List.setIfInBounds_toArray]))
    refine Steps.cons rfl (fun bb aa w' hbs hb0 hbp hI K hK => ?_) ?_
    · obtain ⟨us, hus, ha, hI⟩ := hI
      obtain ⟨u0, u1, u2, u3, u4, u5, u6, u7, rfl⟩ := len8 hus
      have HI := Veil.mk hI
      clear hI
      rw [ha]
      simp only [puts, setAll, List.setIfInBounds_toArray, List.set_cons_zero, List.set_cons_succ]
      go_simp
      exact hK _ _ (chain_step HI.out hus hbs 4 _ (by show 4 < 8; decide) rfl hbp (val_of rfl rfl) (HI.out.ph.step 4 _ (by decide) (by decide)) (by simp only [puts, setAll, List.set_cons_zero, List.set_cons_succ, List.setIfInBounds_toArray]))
    refine Steps.cons rfl (fun bb aa w' hbs hb0 hbp hI K hK => ?_) ?_
    · obtain ⟨us, hus, ha, hI⟩ := hI
      obtain ⟨u0, u1, u2, u3, u4, u5, u6, u7, rfl⟩ := len8 hus
      have h7 := hI.before 7 5 rfl (by kernel_rfl) hb0
      have hst := hI.ph.at_ 0 7 rfl h7 (.inl rfl)
      clear h7
      have HKW : Box w' vb 45 #[.int .i64 v.1, .int .i64 v.2.1, .string v.2.2] := by rw [show w' = WD from hst]; exact HVB.out
      have c0 : w'.cell? ⟨vb, 0, none⟩ = some (.int .i64 v.1) := HKW.at_ 0
      have c1 : w'.cell? ⟨vb, 1, none⟩ = some (.int .i64 v.2.1) := HKW.at_ 1
      have c2 : w'.cell? ⟨vb, 2, none⟩ = some (.string v.2.2) := HKW.at_ 2
      clear HKW
      have HI := Veil.mk hI
      clear hI
      rw [ha]
      simp only [puts, setAll, List.setIfInBounds_toArray, List.set_cons_zero, List.set_cons_succ]
      go_simp
      exact hK _ _ (chain_step HI.out hus hbs 5 _ (by show 5 < 8; decide) rfl hbp (val_of rfl rfl) (HI.out.ph.step 5 _ (by decide) (by decide)) (by simp only [puts, setAll, List.set_cons_zero, List.set_cons_succ, List.setIfInBounds_toArray]))
    refine Steps.cons rfl (fun bb aa w' hbs hb0 hbp hI K hK => ?_) ?_
    · obtain ⟨us, hus, ha, hI⟩ := hI
      obtain ⟨u0, u1, u2, u3, u4, u5, u6, u7, rfl⟩ := len8 hus
      have e3 : u3 = .slice (some ⟨g, 0, none⟩) n1 cap := hI.val 3 _ rfl (gen_after 3 (by kernel_rfl) hbp)
      subst e3
      have e4 : u4 = .int .i64 (i : Int) := hI.val 4 _ rfl (gen_after 4 (by kernel_rfl) hbp)
      subst e4
      have HI := Veil.mk hI
      clear hI
      rw [ha]
      simp only [puts, setAll, List.setIfInBounds_toArray, List.set_cons_zero, List.set_cons_succ]
      go_simp
      exact hK _ _ (chain_step HI.out hus hbs 6 _ (by show 6 < 8; decide) rfl hbp (val_of rfl rfl) (HI.out.ph.step 6 _ (by decide) (by decide)) (by simp only [puts, setAll, List.set_cons_zero, List.set_cons_succ, List.setIfInBounds_toArray]))
    refine Steps.cons rfl (fun bb aa w' hbs hb0 hbp hI K hK => ?_) ?_
    · obtain ⟨us, hus, ha, hI⟩ := hI
      obtain ⟨u0, u1, u2, u3, u4, u5, u6, u7, rfl⟩ := len8 hus
      have e6 : u6 = .pointer (some ⟨g, i * 3, none⟩) := hI.val 6 _ rfl (gen_after 6 (by kernel_rfl) hbp)
      subst e6
      have e5 : u5 = valV v := hI.val 5 _ rfl (gen_after 5 (by kernel_rfl) hbp)
      subst e5
      have hst := hI.ph.at_ 0 7 rfl hb0 (.inl rfl)
      have hwd : w' = WD := hst
      have HST := Veil.mk hwd
      obtain ⟨c0, c1, c2⟩ := HEL.out.cell i HIC.out
      have f0 := HEL.out.free (i * 3)
      have f1 := HEL.out.free (i * 3 + 1)
      have f2 := HEL.out.free (i * 3 + 2)
      rw [← hwd] at c0 c1 c2 f0 f1 f2
      clear hst hwd
      have HI := Veil.mk hI
      clear hI
      rw [ha]
      simp only [puts, setAll, List.setIfInBounds_toArray, List.set_cons_zero, List.set_cons_succ]
      go_simp
      exact hK _ _ (chain_step HI.out hus hbs 7 undef (by show 7 < 8; decide) rfl hbp (none_of rfl) (HI.out.ph.next 0 7 _ rfl hb0 (.inl rfl) (by decide) (show _ = _ by rw [HST.out])) (by simp only [puts, setAll, List.set_cons_zero, List.set_cons_succ, List.setIfInBounds_toArray]))
    exact Steps.nil
  · intro us w9 hus dd hD2 hJ
    obtain ⟨p0, p1, p2, p3, p4, p5, p6, p7, rfl⟩ := len8 hus
    have q1 := hJ.ph.all (fun c hc => hD2 c (by
      have : c = 7 := by simpa using hc
      show c < 8
      omega))
    replace q1 : w9 = ((WD.setCell ⟨g, i * 3, none⟩ (.int .i64 v.1)).setCell ⟨g, i * 3 + 1, none⟩ (.int .i64 v.2.1)).setCell ⟨g, i * 3 + 2, none⟩ (.string v.2.2) := q1
    obtain ⟨s1, s2⟩ := HEL.out.set i HIC.out v
    rw [← q1] at s1 s2
    have hne : ¬ o = g := HOB.out.lab.ne HEL.out.lab (by decide)
    have hfin : ElQ w B o proto ev n1 i v w9 := ⟨_, _, HOB.out.touch s2 hne, .inr ⟨g, cap, rfl, s1⟩, if_pos rfl, touch_new HTC.out s2 (fun b hb => by rw [hb]; exact (HFX.out g rfl).imp .inr id), HFX.out⟩
    have HZ := Veil.mk hfin
    clear hJ hD2 q1 s1 s2 hfin
    simp only [puts, setAll, List.set_cons_zero, List.set_cons_succ, List.setIfInBounds_toArray]
    go_wp2
    go_ret
    have hz := HZ.out
    rw [HN1.out] at hz
    exact ⟨rfl, hz⟩
set_option maxHeartbeats 2000000 in
set_option maxRecDepth 100000 in
theorem setEl_in {w : World} {B o g cap n : Nat} {proto : Int} {xs : Nat → Vt} (hb : Box w o 38 (objC 1 proto false (.pointer none) (.slice (some ⟨g, 0, none⟩) n cap))) (he : ELg w B g n cap xs) (hB : B ≤ w.heap.size) (i : Nat) (hi : i < 10000) (hin : i < n) (v : Vt) :
    Calls Tryd.prog 50 #[.pointer (some ⟨o, 0, none⟩), .int .i64 (i : Int), valV v, .int .i64 7] w fun e w' => e = .returned (.bool true) ∧ ElQ w B o proto (.slice (some ⟨g, 0, none⟩) n cap) n i v w' := by
  obtain ⟨vb, hvb⟩ : ∃ vb, w.heap.size = vb := ⟨_, rfl⟩
  have bv := Box.new w 45 #[.int .i64 v.1, .int .i64 v.2.1, .string v.2.2]
  have hal : Below w.heap.size w (w.alloc (.cells #[.int .i64 v.1, .int .i64 v.2.1, .string v.2.2] 45)) := (Below.refl _ _).alloc (Nat.le_refl _) _
  obtain ⟨W0, hW0⟩ : ∃ W0, w.alloc (.cells #[.int .i64 v.1, .int .i64 v.2.1, .string v.2.2] 45) = W0 := ⟨_, rfl⟩
  rw [hW0] at bv hal
  have hb0 := hb.below hal
  have he0 := he.on hal
  have hB0 := Nat.le_trans hB hal.size
  rw [hvb] at bv
  have HW0 := Veil.mk (And.intro hW0 hvb)
  obtain ⟨n1, hn1⟩ : ∃ n1, n1 = n := ⟨_, rfl⟩
  rw [← hn1] at hb he hb0 he0 ⊢
  obtain ⟨xs1, hxs⟩ : ∃ xs1, xs1 = xs := ⟨_, rfl⟩
  rw [← hxs] at he he0
  have o4 : W0.cell? ⟨o, 4, none⟩ = some (.slice (some ⟨g, 0, none⟩) n1 cap) := hb0.at_ 4
  have hin' : ¬ (n1 : Int) ≤ (i : Int) := by omega
  have HX := Veil.mk (And.intro hb0 (And.intro he0 (And.intro (show i < n1 by omega) (And.intro bv (And.intro (Touch.of_below (S := fun k => k = o ∨ (Value.slice (some ⟨g, 0, none⟩) n1 cap).ownBlock = some k) hal) (show ∀ k, (Value.slice (some ⟨g, 0, none⟩) n1 cap).ownBlock = some k → (Value.slice (some ⟨g, 0, none⟩) n1 cap).ownBlock = some k ∨ w.heap.size ≤ k from fun k hk => .inl hk))))))
  clear hb he bv hal hb0 he0 hB0 hW0 hvb hn1 hxs
  go_enter Tryd.func50, Tryd.ntmps50
  go_upto_region 1 with (fail)
  rw [HW0.out.1, HW0.out.2]
  go_upto_region 5 with (fail)
  clear o4 hin'
  obtain ⟨hboX, helX, hin1, hvbX, htX, hfX⟩ := HX.out
  obtain ⟨WD, hWD⟩ : ∃ WD, W0.drew = WD := ⟨_, rfl⟩
  have HOB : Veil (Box WD o 38 (objC 1 proto false (.pointer none) (.slice (some ⟨g, 0, none⟩) n1 cap))) := ⟨by rw [← hWD]; exact hboX.drew⟩
  have HEL : Veil (ELg WD B g n1 cap xs1) := ⟨by rw [← hWD]; exact helX.on (Below.refl _ _).drew⟩
  have HVB : Veil (Box WD vb 45 #[.int .i64 v.1, .int .i64 v.2.1, .string v.2.2]) := ⟨by rw [← hWD]; exact hvbX.drew⟩
  have HTC : Veil (Touch (fun k => k = o ∨ (Value.slice (some ⟨g, 0, none⟩) n1 cap).ownBlock = some k) w WD) := ⟨by rw [← hWD]; exact htX.trans (Touch.of_below (Below.refl _ _).drew)⟩
  have HIC : Veil (i < cap) := ⟨by have := helX.le; omega⟩
  have HFX := Veil.mk hfX
  have HWD := Veil.mk hWD
  have hi00 : (0 : Int) ≤ (i : Int) := by omega
  have hin2 : (i : Int) < (n1 : Int) := by omega
  clear hWD HX hboX helX hvbX htX hfX
  refine wp_region_chain ([some (· = .pointer (some ⟨o, 0, none⟩)), some (· = .pointer (some ⟨o, 0, none⟩)), some (· = .pointer (some ⟨o, 4, none⟩)), some (· = .slice (some ⟨g, 0, none⟩) n1 cap), some (· = .int .i64 (i : Int)), some (· = valV v), some (· = .pointer (some ⟨g, i * 3, none⟩)), none] : List (Option (Value → Prop))) (LPh [7] (SeSt g i v WD)) [some 22, some 23, some 24, some 25, some 26, some 27, some 28, none] (curV' _ [some 22, some 23, some 24, some 25, some 26, some 27, some 28, none]) (by kernel_rfl) rfl rfl (puts_cur _ _) (LPh.start (show W0.drew = WD from HWD.out)) ?_ (by kernel_rfl) ?_
  · refine Steps.cons rfl (fun bb aa w' hbs hb0 hbp hI K hK => ?_) ?_
    · obtain ⟨us, hus, ha, hI⟩ := hI
      obtain ⟨u0, u1, u2, u3, u4, u5, u6, u7, rfl⟩ := len8 hus
      have HI := Veil.mk hI
      clear hI
      rw [ha]
      simp only [puts, setAll, List.setIfInBounds_toArray, List.set_cons_zero, List.set_cons_succ]
      go_simp
      exact hK _ _ (chain_step HI.out hus hbs 0 _ (by show 0 < 8; decide) rfl hbp (val_of rfl rfl) (HI.out.ph.step 0 _ (by decide) (by decide)) (by simp only [puts, setAll, List.set_cons_zero, List.set_cons_succ, List.setIfInBounds_toArray]))
    refine Steps.cons rfl (fun bb aa w' hbs hb0 hbp hI K hK => ?_) ?_
    · obtain ⟨us, hus, ha, hI⟩ := hI
      obtain ⟨u0, u1, u2, u3, u4, u5, u6, u7, rfl⟩ := len8 hus
      have e0 : u0 = .pointer (some ⟨o, 0, none⟩) := hI.val 0 _ rfl (gen_after 0 (by kernel_rfl) hbp)
      subst e0
      have HI := Veil.mk hI
      clear hI
      rw [ha]
      simp only [puts, setAll, List.setIfInBounds_toArray, List.set_cons_zero, List.set_cons_succ]
      go_simp
      exact hK _ _ (chain_step HI.out hus hbs 1 _ (by show 1 < 8; decide) rfl hbp (val_of rfl rfl) (HI.out.ph.step 1 _ (by decide) (by decide)) (by simp only [puts, setAll, List.set_cons_zero, List.set_cons_succ, List.setIfInBounds_toArray]))
    refine Steps.cons rfl (fun bb aa w' hbs hb0 hbp hI K hK => ?_) ?_
    · obtain ⟨us, hus, ha, hI⟩ := hI
      obtain ⟨u0, u1, u2, u3, u4, u5, u6, u7, rfl⟩ := len8 hus
      have e1 : u1 = .pointer (some ⟨o, 0, none⟩) := hI.val 1 _ rfl (gen_after 1 (by kernel_rfl) hbp)
      subst e1
      have HI := Veil.mk hI
      clear hI
      rw [ha]
      simp only [puts, setAll, List.setIfInBounds_toArray, List.set_cons_zero, List.set_cons_succ]
      go_simp
      exact hK _ _ (chain_step HI.out hus hbs 2 _ (by show 2 < 8; decide) rfl hbp (val_of rfl rfl) (HI.out.ph.step 2 _ (by decide) (by decide)) (by simp only [puts, setAll, List.set_cons_zero, List.set_cons_succ, List.setIfInBounds_toArray]))
    refine Steps.cons rfl (fun bb aa w' hbs hb0 hbp hI K hK => ?_) ?_
    · obtain ⟨us, hus, ha, hI⟩ := hI
      obtain ⟨u0, u1, u2, u3, u4, u5, u6, u7, rfl⟩ := len8 hus
      have e2 : u2 = .pointer (some ⟨o, 4, none⟩) := hI.val 2 _ rfl (gen_after 2 (by kernel_rfl) hbp)
      subst e2
      have h7 := hI.before 7 3 rfl (by kernel_rfl) hb0
      have hst := hI.ph.at_ 0 7 rfl h7 (.inl rfl)
      clear h7
      have c0 : w'.cell? ⟨o, 4, none⟩ = some (.slice (some ⟨g, 0, none⟩) n1 cap) := by rw [show w' = WD from hst]; exact HOB.out.at_ 4
      have HI := Veil.mk hI
      clear hI
      rw [ha]
      simp only [puts, setAll, List.setIfInBounds_toArray, List.set_cons_zero, List.set_cons_succ]
      go_simp
      exact hK _ _ (chain_step HI.out hus hbs 3 _ (by show 3 < 8; decide) rfl hbp (val_of rfl rfl) (HI.out.ph.step 3 _ (by decide) (by decide)) (by simp only [puts, setAll, List.set_cons_zero, List.set_cons_succ, List.setIfInBounds_toArray]))
    refine Steps.cons rfl (fun bb aa w' hbs hb0 hbp hI K hK => ?_) ?_
    · obtain ⟨us, hus, ha, hI⟩ := hI
      obtain ⟨u0, u1, u2, u3, u4, u5, u6, u7, rfl⟩ := len8 hus
      have HI := Veil.mk hI
      clear hI
      rw [ha]
      simp only [puts, setAll, List.setIfInBounds_toArray, List.set_cons_zero, List.set_cons_succ]
      go_simp
      exact hK _ _ (chain_step HI.out hus hbs 4 _ (by show 4 < 8; decide) rfl hbp (val_of rfl rfl) (HI.out.ph.step 4 _ (by decide) (by decide)) (by simp only [puts, setAll, List.set_cons_zero, List.set_cons_succ, List.setIfInBounds_toArray]))
    refine Steps.cons rfl (fun bb aa w' hbs hb0 hbp hI K hK => ?_) ?_
    · obtain ⟨us, hus, ha, hI⟩ := hI
      obtain ⟨u0, u1, u2, u3, u4, u5, u6, u7, rfl⟩ := len8 hus
      have h7 := hI.before 7 5 rfl (by kernel_rfl) hb0
      have hst := hI.ph.at_ 0 7 rfl h7 (.inl rfl)
      clear h7
      have HKW : Box w' vb 45 #[.int .i64 v.1, .int .i64 v.2.1, .string v.2.2] := by rw [show w' = WD from hst]; exact HVB.out
      have c0 : w'.cell? ⟨vb, 0, none⟩ = some (.int .i64 v.1) := HKW.at_ 0
      have c1 : w'.cell? ⟨vb, 1, none⟩ = some (.int .i64 v.2.1) := HKW.at_ 1
      have c2 : w'.cell? ⟨vb, 2, none⟩ = some (.string v.2.2) := HKW.at_ 2
      clear HKW
      have HI := Veil.mk hI
      clear hI
      rw [ha]
      simp only [puts, setAll, List.setIfInBounds_toArray, List.set_cons_zero, List.set_cons_succ]
      go_simp
      exact hK _ _ (chain_step HI.out hus hbs 5 _ (by show 5 < 8; decide) rfl hbp (val_of rfl rfl) (HI.out.ph.step 5 _ (by decide) (by decide)) (by simp only [puts, setAll, List.set_cons_zero, List.set_cons_succ, List.setIfInBounds_toArray]))
    refine Steps.cons rfl (fun bb aa w' hbs hb0 hbp hI K hK => ?_) ?_
    · obtain ⟨us, hus, ha, hI⟩ := hI
      obtain ⟨u0, u1, u2, u3, u4, u5, u6, u7, rfl⟩ := len8 hus
      have e3 : u3 = .slice (some ⟨g, 0, none⟩) n1 cap := hI.val 3 _ rfl (gen_after 3 (by kernel_rfl) hbp)
      subst e3
      have e4 : u4 = .int .i64 (i : Int) := hI.val 4 _ rfl (gen_after 4 (by kernel_rfl) hbp)
      subst e4
      have HI := Veil.mk hI
      clear hI
      rw [ha]
      simp only [puts, setAll, List.setIfInBounds_toArray, List.set_cons_zero, List.set_cons_succ]
      go_simp
      exact hK _ _ (chain_step HI.out hus hbs 6 _ (by show 6 < 8; decide) rfl hbp (val_of rfl rfl) (HI.out.ph.step 6 _ (by decide) (by decide)) (by simp only [puts, setAll, List.set_cons_zero, List.set_cons_succ, List.setIfInBounds_toArray]))
    refine Steps.cons rfl (fun bb aa w' hbs hb0 hbp hI K hK => ?_) ?_
    · obtain ⟨us, hus, ha, hI⟩ := hI
      obtain ⟨u0, u1, u2, u3, u4, u5, u6, u7, rfl⟩ := len8 hus
      have e6 : u6 = .pointer (some ⟨g, i * 3, none⟩) := hI.val 6 _ rfl (gen_after 6 (by kernel_rfl) hbp)
      subst e6
      have e5 : u5 = valV v := hI.val 5 _ rfl (gen_after 5 (by kernel_rfl) hbp)
      subst e5
      have hst := hI.ph.at_ 0 7 rfl hb0 (.inl rfl)
      have hwd : w' = WD := hst
      have HST := Veil.mk hwd
      obtain ⟨c0, c1, c2⟩ := HEL.out.cell i HIC.out
      have f0 := HEL.out.free (i * 3)
      have f1 := HEL.out.free (i * 3 + 1)
      have f2 := HEL.out.free (i * 3 + 2)
      rw [← hwd] at c0 c1 c2 f0 f1 f2
      clear hst hwd
      have HI := Veil.mk hI
      clear hI
      rw [ha]
      simp only [puts, setAll, List.setIfInBounds_toArray, List.set_cons_zero, List.set_cons_succ]
      go_simp
      exact hK _ _ (chain_step HI.out hus hbs 7 undef (by show 7 < 8; decide) rfl hbp (none_of rfl) (HI.out.ph.next 0 7 _ rfl hb0 (.inl rfl) (by decide) (show _ = _ by rw [HST.out])) (by simp only [puts, setAll, List.set_cons_zero, List.set_cons_succ, List.setIfInBounds_toArray]))
    exact Steps.nil
  · intro us w9 hus dd hD2 hJ
    obtain ⟨p0, p1, p2, p3, p4, p5, p6, p7, rfl⟩ := len8 hus
    have q1 := hJ.ph.all (fun c hc => hD2 c (by
      have : c = 7 := by simpa using hc
      show c < 8
      omega))
    replace q1 : w9 = ((WD.setCell ⟨g, i * 3, none⟩ (.int .i64 v.1)).setCell ⟨g, i * 3 + 1, none⟩ (.int .i64 v.2.1)).setCell ⟨g, i * 3 + 2, none⟩ (.string v.2.2) := q1
    obtain ⟨s1, s2⟩ := HEL.out.set i HIC.out v
    rw [← q1] at s1 s2
    have hne : ¬ o = g := HOB.out.lab.ne HEL.out.lab (by decide)
    have hfin : ElQ w B o proto (.slice (some ⟨g, 0, none⟩) n1 cap) n1 i v w9 := ⟨_, _, HOB.out.touch s2 hne, .inr ⟨g, cap, rfl, s1⟩, if_pos rfl, touch_new HTC.out s2 (fun b hb => by rw [hb]; exact (HFX.out g rfl).imp .inr id), HFX.out⟩
    have HZ := Veil.mk hfin
    clear hJ hD2 q1 s1 s2 hfin
    simp only [puts, setAll, List.set_cons_zero, List.set_cons_succ, List.setIfInBounds_toArray]
    go_wp2
    go_ret
    exact ⟨rfl, HZ.out⟩
end Go.Proofs.YtbeapojjbgkalaaDoor
