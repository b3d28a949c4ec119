/- OtableFlags: the law's walk. -/
import Derived.Test.YthlhchaapdhbfaaFv
import Derived.Test.YthlhchaapdhbfaaFx
import Derived.Test.YthlhchaapdhbfaaIg
import Derived.Deep.DeepCutAuto
namespace Go.Proofs.Ythlhchaapdhbfaa
open Go Go.RowKit

theorem len14 {α : Type} {us : List α} (h : us.length = 14) : ∃ a0 a1 a2 a3 a4 a5 a6 a7 a8 a9 a10 a11 a12 a13, us = [a0, a1, a2, a3, a4, a5, a6, a7, a8, a9, a10, a11, a12, a13] := by
  match us, h with
  | [a0, a1, a2, a3, a4, a5, a6, a7, a8, a9, a10, a11, a12, a13], _ => exact ⟨a0, a1, a2, a3, a4, a5, a6, a7, a8, a9, a10, a11, a12, a13, rfl⟩
/-- What the operations of the region leave. -/
def pairK (sa sb : Value) (h : Nat) (f g : Int) : List Kd :=
  [.val (· = sa), .val (fun u => ∃ x : Vt, WV x.1 x.2.1 x.2.2 ∧ u = valV x), .val (· = sb), .val (fun u => ∃ x : Vt, WV x.1 x.2.1 x.2.2 ∧ u = valV x),
   .val (· = .pointer (some ⟨h, 0, none⟩)), .val (· = .int .i64 f), .val (· = .pointer (some ⟨h, 1, none⟩)), .val (· = .int .i64 g),
   .box 82 #[.int .i64 0, .int .i64 0, .string ⟨#[]⟩] 10 1, .box 82 #[.int .i64 0, .int .i64 0, .string ⟨#[]⟩] 11 3, .sto 8 1, .sto 9 3, .val (· = .int .i64 f), .val (· = .int .i64 g)]
theorem pairK_fit (sa sb : Value) (h : Nat) (f g : Int) : Fit (pairK sa sb h f g) := fit_of rfl
abbrev pairS : List (Option Nat) := [some 33, some 34, some 35, some 36, some 37, some 38, some 39, some 40, some 7, some 8, none, none, some 9, some 10]
/-- What the pair leaves. -/
def PairP (W : World) (f g : Int) (s7 s8 s9 s10 : Value) (w : World) : Prop := ∃ (g1 g2 : Nat) (x y : Vt), s7 = .pointer (some ⟨g1, 0, none⟩) ∧ s8 = .pointer (some ⟨g2, 0, none⟩) ∧ s9 = .int .i64 f ∧ s10 = .int .i64 g ∧ WV x.1 x.2.1 x.2.2 ∧ WV y.1 y.2.1 y.2.2 ∧
  Box w g1 82 #[.int .i64 x.1, .int .i64 x.2.1, .string x.2.2] ∧ Box w g2 82 #[.int .i64 y.1, .int .i64 y.2.1, .string y.2.2] ∧ Below W.heap.size W w

theorem get_tf {B t : Nat} {F : Nat → Prop} {O : Ob} {w : World} (h : Tf B t F O w) (k : Vt) (hk : k.2.2.size ≤ 1000) :
    Calls Try.prog 46 #[.pointer (some ⟨t, 0, none⟩), valV k] w fun e w' => ((∃ x ∈ O.1, x.1 = keyT k ∧ e = .returned (.tuple #[valV x.2.1, .int .i64 x.2.2, .bool true])) ∨ (¬ hasK O.1 (keyT k) ∧ e = .returned (.tuple #[zeroV, .int .i64 0, .bool false]))) ∧ Below w.heap.size w w' := by
  obtain ⟨T, vs, vb, vc, hT, hG, ho, -⟩ := h
  refine (get_any B t T vs vb vc hG.inv k hk w hT).mono ?_
  rintro e w' ⟨hr, hb⟩
  rw [ho] at hr
  exact ⟨hr, hb⟩
theorem flags_get {B t : Nat} {F : Nat → Prop} {w : World} {k x k9 : Vt} {g : Int} {L : List (Nat × List En)} (h : Tf B t F ([(k, x, g), (k9, x, 0)], L) w) (hk : keyT x = k) (hne : ¬ k = k9) (hz : x.2.2.size ≤ 1000) :
    Calls Try.prog 46 #[.pointer (some ⟨t, 0, none⟩), valV x] w fun e w' => e = .returned (.tuple #[valV x, .int .i64 g, .bool true]) ∧ Below w.heap.size w w' := by
  refine (get_tf h x hz).mono ?_
  rintro e w' ⟨⟨y, hy, hyk, rfl⟩ | ⟨hn, rfl⟩, hb⟩
  · rcases List.mem_cons.1 hy with rfl | hy
    · exact ⟨rfl, hb⟩
    · rcases List.mem_cons.1 hy with rfl | hy
      · exact (hne (hk.symm.trans hyk.symm)).elim
      · cases hy
  · exact (hn ⟨(k, x, g), List.mem_cons_self, hk.symm⟩).elim
theorem key_cases {xk xn kk kn : Int} {xs ks : ByteArray} (hk : keyT (xk, xn, xs) = (kk, kn, ks)) : (xk = 6 ∧ kk = 3 ∧ kn = 0 ∧ ks = ⟨#[]⟩) ∨ (kk = xk ∧ kn = xn ∧ ks = xs) := by
  unfold keyT at hk
  split at hk
  · rename_i h6
    simp only [Prod.mk.injEq] at hk
    exact .inl ⟨h6, hk.1.symm, hk.2.1.symm, hk.2.2.symm⟩
  · simp only [Prod.mk.injEq] at hk
    exact .inr ⟨hk.1.symm, hk.2.1.symm, hk.2.2.symm⟩
theorem key_999 {x : Vt} (h : WV x.1 x.2.1 x.2.2) : ¬ keyT x = (9, 999, ⟨#[]⟩) := by
  obtain ⟨k, n, s⟩ := x
  unfold keyT
  split
  · intro e; cases e
  · intro e
    simp only [Prod.mk.injEq] at e
    obtain ⟨rfl, rfl, rfl⟩ := e
    rcases h with ⟨h1, h2, _⟩ | ⟨h1, _⟩ | ⟨h1, _⟩ | ⟨h1, _⟩ | ⟨h1, h2, h3, _⟩
    · simp at h2
    · simp at h1
    · simp [M.Num] at h1
    · simp at h1
    · simp at h3
theorem flags_put2 (k y x k9 : Vt) (f : Int) (h : ¬ k = k9) : putO ([(k, y, f)], []) k9 x 0 = ([(k, y, f), (k9, x, 0)], []) := by
  simp [putO, hasK, h]
theorem flags_put3 (k y x k9 : Vt) (f g : Int) (h : ¬ k = k9) : putO ([(k, y, f), (k9, x, 0)], []) k x g = ([(k, x, g), (k9, x, 0)], []) := by
  have h2 : ¬ k9 = k := fun e => h e.symm
  simp [putO, hasK, updL, h2]
set_option maxHeartbeats 800000 in
set_option maxRecDepth 100000 in
theorem flags_any (ka na : Int) (a : Option Addr) (la ca : Nat) (l : List Nat) (hl : ∀ u ∈ l, u < 65536) (kb nb : Int) (b : Option Addr) (lb cb : Nat) (r : List Nat) (hr : ∀ u ∈ r, u < 65536) (f g : Int) (w : World) (h : W.Nums .u16 w a la l) (h2 : W.Nums .u16 w b lb r) :
    Calls Try.prog 13 #[seedV ka na a la ca, seedV kb nb b lb cb, .agg #[.int .i64 f, .int .i64 g]] w fun e w' => e = .returned (.bool true) ∧ Below w.heap.size w w' := by
  have HF := Veil.mk fit_any
  obtain ⟨W, hW⟩ : ∃ W, W = ((w.alloc (.cells #[.int .i64 ka, .int .i64 na, .slice a la ca] 77)).alloc (.cells #[.int .i64 kb, .int .i64 nb, .slice b lb cb] 77)).alloc (.cells #[.int .i64 f, .int .i64 g] 32) := ⟨_, rfl⟩
  have hBW : Below w.heap.size w W := by rw [hW]; exact ((((Below.refl _ _).alloc (Nat.le_refl _) _).alloc (by simp) _).alloc (by simp; omega) _)
  obtain ⟨ga, hga⟩ : ∃ g, w.heap.size = g := ⟨_, rfl⟩
  obtain ⟨gb, hgb⟩ : ∃ g, w.heap.size + 1 = g := ⟨_, rfl⟩
  obtain ⟨gh, hgh⟩ : ∃ g, w.heap.size + 1 + 1 = g := ⟨_, rfl⟩
  have b1 : Box W ga 77 #[.int .i64 ka, .int .i64 na, .slice a la ca] := by rw [hW, ← hga]; exact ((Box.new w _ _).more _).more _
  have b2 : Box W gb 77 #[.int .i64 kb, .int .i64 nb, .slice b lb cb] := by
    rw [hW, ← hgb]
    have := Box.new (w.alloc (.cells #[.int .i64 ka, .int .i64 na, .slice a la ca] 77)) 77 #[.int .i64 kb, .int .i64 nb, .slice b lb cb]
    rw [World.size_alloc] at this
    exact this.more _
  have b3 : Box W gh 32 #[.int .i64 f, .int .i64 g] := by
    rw [hW, ← hgh]
    have := Box.new ((w.alloc (.cells #[.int .i64 ka, .int .i64 na, .slice a la ca] 77)).alloc (.cells #[.int .i64 kb, .int .i64 nb, .slice b lb cb] 77)) 32 #[.int .i64 f, .int .i64 g]
    rw [World.size_alloc, World.size_alloc] at this
    exact this
  have HW := Veil.mk (And.intro hW (And.intro hga (And.intro hgb hgh)))
  have HBW := Veil.mk hBW
  have H1 := Veil.mk (h.on hBW)
  have H2 := Veil.mk (h2.on hBW)
  clear hW h h2 hBW hga hgb hgh
  by_cases h1 : la ≤ 100 ∧ lb ≤ 100
  · obtain ⟨g1, g2⟩ := h1
    have q1 : ¬ (100 : Int) < (la : Int) := by omega
    have q2 : ¬ (100 : Int) < (lb : Int) := by omega
    go_enter Try.func13, Try.ntmps13
    go_upto_region 1 with (fail)
    rw [← HW.out.1, HW.out.2.2.2, HW.out.2.2.1, HW.out.2.1]
    clear HW
    go_upto_region 3 with (first | (go_at_call 32; ((with_reducible refine (HF.out _).mono ?_); rintro e w1 ⟨rfl, hb1⟩)))
    have HS1 := Veil.mk (b1.on hb1 b1.lt)
    have HS2 := Veil.mk (b2.on hb1 b2.lt)
    have HH := Veil.mk (b3.on hb1 b3.lt)
    have HV1 : Veil (∀ w', Below w1.heap.size w1 w' → Calls Try.prog 44 #[seedV ka na a la ca] w' (SeedPost w')) := ⟨fun w' hb => seed_val ka na a la ca l g1 hl w' ((H1.out.on hb1).on hb)⟩
    have HV2 : Veil (∀ w', Below w1.heap.size w1 w' → Calls Try.prog 44 #[seedV kb nb b lb cb] w' (SeedPost w')) := ⟨fun w' hb => seed_val kb nb b lb cb r g2 hr w' ((H2.out.on hb1).on hb)⟩
    have c2 : w1.cell? ⟨ga, 2, none⟩ = some (.slice a la ca) := HS1.out.at_ 2
    have d2 : w1.cell? ⟨gb, 2, none⟩ = some (.slice b lb cb) := HS2.out.at_ 2
    clear b1 b2 b3 hl hr
    go_upto_region 5 with (fail)
    clear c2 d2 q1 q2
    go_cut [7, 8, 9, 10] (fun s7 s8 s9 s10 wx => PairP w1 f g s7 s8 s9 s10 wx)
    case first =>
      refine wp_region_gen (pairK (seedV ka na a la ca) (seedV kb nb b lb cb) gh f g) pairS (List.replicate 14 undef) (by kernel_rfl) rfl rfl (by simp only [puts, setAll, List.replicate, List.set_cons_zero, List.set_cons_succ, List.setIfInBounds_toArray]) ?_ (by kernel_rfl) ?_
      · refine Steps.cons rfl (fun bb aa w' hbs hb0 hbp hI K hK => ?_) ?_
        · obtain ⟨us, hus, rfl, hI⟩ := hI
          obtain ⟨u0, u1, u2, u3, u4, u5, u6, u7, u8, u9, u10, u11, u12, u13, rfl⟩ := len14 hus
          have hch := hI.below
          have q := HS1.out.on hch HS1.out.lt; have c0 : w'.cell? ⟨ga, 0, none⟩ = some (.int .i64 ka) := q.at_ 0; have c1 : w'.cell? ⟨ga, 1, none⟩ = some (.int .i64 na) := q.at_ 1; have c2 : w'.cell? ⟨ga, 2, none⟩ = some (.slice a la ca) := q.at_ 2; clear q
          have HI := Veil.mk hI
          clear hI
          simp only [puts, setAll, List.setIfInBounds_toArray, List.set_cons_zero, List.set_cons_succ]
          go_simp
          exact hK _ _ (gen_val HI.out hus hbs 0 _ _ (by show 0 < 14; decide) (pairK_fit _ _ _ _ _) rfl hb0 rfl (Below.refl _ _) (by simp only [puts, setAll, List.set_cons_zero, List.set_cons_succ, List.setIfInBounds_toArray]))
        refine Steps.cons rfl (fun bb aa w' hbs hb0 hbp hI K hK => ?_) ?_
        · obtain ⟨us, hus, rfl, hI⟩ := hI
          obtain ⟨u0, u1, u2, u3, u4, u5, u6, u7, u8, u9, u10, u11, u12, u13, rfl⟩ := len14 hus
          have e0 : u0 = (seedV ka na a la ca) := hI.val 0 _ rfl (gen_after 0 (by kernel_rfl) hbp)
          subst e0
          have hch := hI.below
          have HI := Veil.mk hI
          clear hI
          simp only [puts, setAll, List.setIfInBounds_toArray, List.set_cons_zero, List.set_cons_succ]
          go_simp
          refine (HV1.out w' hch).mono ?_
          intro e w2 hp
          obtain ⟨k1, n1, s1, wv1, rfl, hb2⟩ := hp
          go_simp
          exact hK _ _ (gen_val HI.out hus hbs 1 _ _ (by show 1 < 14; decide) (pairK_fit _ _ _ _ _) rfl hb0 ⟨(k1, n1, s1), wv1, rfl⟩ hb2 (by simp only [puts, setAll, List.set_cons_zero, List.set_cons_succ, List.setIfInBounds_toArray]))
        refine Steps.cons rfl (fun bb aa w' hbs hb0 hbp hI K hK => ?_) ?_
        · obtain ⟨us, hus, rfl, hI⟩ := hI
          obtain ⟨u0, u1, u2, u3, u4, u5, u6, u7, u8, u9, u10, u11, u12, u13, rfl⟩ := len14 hus
          have hch := hI.below
          have q := HS2.out.on hch HS2.out.lt; have c0 : w'.cell? ⟨gb, 0, none⟩ = some (.int .i64 kb) := q.at_ 0; have c1 : w'.cell? ⟨gb, 1, none⟩ = some (.int .i64 nb) := q.at_ 1; have c2 : w'.cell? ⟨gb, 2, none⟩ = some (.slice b lb cb) := q.at_ 2; clear q
          have HI := Veil.mk hI
          clear hI
          simp only [puts, setAll, List.setIfInBounds_toArray, List.set_cons_zero, List.set_cons_succ]
          go_simp
          exact hK _ _ (gen_val HI.out hus hbs 2 _ _ (by show 2 < 14; decide) (pairK_fit _ _ _ _ _) rfl hb0 rfl (Below.refl _ _) (by simp only [puts, setAll, List.set_cons_zero, List.set_cons_succ, List.setIfInBounds_toArray]))
        refine Steps.cons rfl (fun bb aa w' hbs hb0 hbp hI K hK => ?_) ?_
        · obtain ⟨us, hus, rfl, hI⟩ := hI
          obtain ⟨u0, u1, u2, u3, u4, u5, u6, u7, u8, u9, u10, u11, u12, u13, rfl⟩ := len14 hus
          have e2 : u2 = (seedV kb nb b lb cb) := hI.val 2 _ rfl (gen_after 2 (by kernel_rfl) hbp)
          subst e2
          have hch := hI.below
          have HI := Veil.mk hI
          clear hI
          simp only [puts, setAll, List.setIfInBounds_toArray, List.set_cons_zero, List.set_cons_succ]
          go_simp
          refine (HV2.out w' hch).mono ?_
          intro e w2 hp
          obtain ⟨k1, n1, s1, wv1, rfl, hb2⟩ := hp
          go_simp
          exact hK _ _ (gen_val HI.out hus hbs 3 _ _ (by show 3 < 14; decide) (pairK_fit _ _ _ _ _) rfl hb0 ⟨(k1, n1, s1), wv1, rfl⟩ hb2 (by simp only [puts, setAll, List.set_cons_zero, List.set_cons_succ, List.setIfInBounds_toArray]))
        refine Steps.cons rfl (fun bb aa w' hbs hb0 hbp hI K hK => ?_) ?_
        · obtain ⟨us, hus, rfl, hI⟩ := hI
          obtain ⟨u0, u1, u2, u3, u4, u5, u6, u7, u8, u9, u10, u11, u12, u13, rfl⟩ := len14 hus
          have hch := hI.below
          skip
          have HI := Veil.mk hI
          clear hI
          simp only [puts, setAll, List.setIfInBounds_toArray, List.set_cons_zero, List.set_cons_succ]
          go_simp
          exact hK _ _ (gen_val HI.out hus hbs 4 _ _ (by show 4 < 14; decide) (pairK_fit _ _ _ _ _) rfl hb0 rfl (Below.refl _ _) (by simp only [puts, setAll, List.set_cons_zero, List.set_cons_succ, List.setIfInBounds_toArray]))
        refine Steps.cons rfl (fun bb aa w' hbs hb0 hbp hI K hK => ?_) ?_
        · obtain ⟨us, hus, rfl, hI⟩ := hI
          obtain ⟨u0, u1, u2, u3, u4, u5, u6, u7, u8, u9, u10, u11, u12, u13, rfl⟩ := len14 hus
          have e4 : u4 = .pointer (some ⟨gh, 0, none⟩) := hI.val 4 _ rfl (gen_after 4 (by kernel_rfl) hbp)
          subst e4
          have hch := hI.below
          have q := HH.out.on hch HH.out.lt; have c0 : w'.cell? ⟨gh, 0, none⟩ = some (.int .i64 f) := q.at_ 0; clear q
          have HI := Veil.mk hI
          clear hI
          simp only [puts, setAll, List.setIfInBounds_toArray, List.set_cons_zero, List.set_cons_succ]
          go_simp
          exact hK _ _ (gen_val HI.out hus hbs 5 _ _ (by show 5 < 14; decide) (pairK_fit _ _ _ _ _) rfl hb0 rfl (Below.refl _ _) (by simp only [puts, setAll, List.set_cons_zero, List.set_cons_succ, List.setIfInBounds_toArray]))
        refine Steps.cons rfl (fun bb aa w' hbs hb0 hbp hI K hK => ?_) ?_
        · obtain ⟨us, hus, rfl, hI⟩ := hI
          obtain ⟨u0, u1, u2, u3, u4, u5, u6, u7, u8, u9, u10, u11, u12, u13, rfl⟩ := len14 hus
          have hch := hI.below
          skip
          have HI := Veil.mk hI
          clear hI
          simp only [puts, setAll, List.setIfInBounds_toArray, List.set_cons_zero, List.set_cons_succ]
          go_simp
          exact hK _ _ (gen_val HI.out hus hbs 6 _ _ (by show 6 < 14; decide) (pairK_fit _ _ _ _ _) rfl hb0 rfl (Below.refl _ _) (by simp only [puts, setAll, List.set_cons_zero, List.set_cons_succ, List.setIfInBounds_toArray]))
        refine Steps.cons rfl (fun bb aa w' hbs hb0 hbp hI K hK => ?_) ?_
        · obtain ⟨us, hus, rfl, hI⟩ := hI
          obtain ⟨u0, u1, u2, u3, u4, u5, u6, u7, u8, u9, u10, u11, u12, u13, rfl⟩ := len14 hus
          have e6 : u6 = .pointer (some ⟨gh, 1, none⟩) := hI.val 6 _ rfl (gen_after 6 (by kernel_rfl) hbp)
          subst e6
          have hch := hI.below
          have q := HH.out.on hch HH.out.lt; have c0 : w'.cell? ⟨gh, 1, none⟩ = some (.int .i64 g) := q.at_ 1; clear q
          have HI := Veil.mk hI
          clear hI
          simp only [puts, setAll, List.setIfInBounds_toArray, List.set_cons_zero, List.set_cons_succ]
          go_simp
          exact hK _ _ (gen_val HI.out hus hbs 7 _ _ (by show 7 < 14; decide) (pairK_fit _ _ _ _ _) rfl hb0 rfl (Below.refl _ _) (by simp only [puts, setAll, List.set_cons_zero, List.set_cons_succ, List.setIfInBounds_toArray]))
        refine Steps.cons rfl (fun bb aa w' hbs hb0 hbp hI K hK => ?_) ?_
        · obtain ⟨us, hus, rfl, hI⟩ := hI
          obtain ⟨u0, u1, u2, u3, u4, u5, u6, u7, u8, u9, u10, u11, u12, u13, rfl⟩ := len14 hus
          have hch := hI.below
          have HI := Veil.mk hI
          clear hI
          simp only [puts, setAll, List.setIfInBounds_toArray, List.set_cons_zero, List.set_cons_succ]
          go_simp
          exact hK _ _ (gen_box HI.out hus hbs 8 _ _ _ _ (by show 8 < 14; decide) (pairK_fit _ _ _ _ _) rfl hb0 (by simp only [puts, setAll, List.set_cons_zero, List.set_cons_succ, List.setIfInBounds_toArray]))
        refine Steps.cons rfl (fun bb aa w' hbs hb0 hbp hI K hK => ?_) ?_
        · obtain ⟨us, hus, rfl, hI⟩ := hI
          obtain ⟨u0, u1, u2, u3, u4, u5, u6, u7, u8, u9, u10, u11, u12, u13, rfl⟩ := len14 hus
          have hch := hI.below
          have HI := Veil.mk hI
          clear hI
          simp only [puts, setAll, List.setIfInBounds_toArray, List.set_cons_zero, List.set_cons_succ]
          go_simp
          exact hK _ _ (gen_box HI.out hus hbs 9 _ _ _ _ (by show 9 < 14; decide) (pairK_fit _ _ _ _ _) rfl hb0 (by simp only [puts, setAll, List.set_cons_zero, List.set_cons_succ, List.setIfInBounds_toArray]))
        refine Steps.cons rfl (fun bb aa w' hbs hb0 hbp hI K hK => ?_) ?_
        · obtain ⟨us, hus, rfl, hI⟩ := hI
          obtain ⟨u0, u1, u2, u3, u4, u5, u6, u7, u8, u9, u10, u11, u12, u13, rfl⟩ := len14 hus
          have hch := hI.below
          have hq1 := gen_after 8 (by kernel_rfl) hbp
          have hq2 := gen_after 1 (by kernel_rfl) hbp
          have hq := gen_sto hI hus hbs 10 8 1 _ _ (by show 10 < 14; decide) (pairK_fit _ _ _ _ _) rfl rfl hb0 hq1 hq2
          have hs : ∃ x : Vt, WV x.1 x.2.1 x.2.2 ∧ u1 = valV x := hI.val 1 _ rfl hq2
          clear hI
          simp only [puts, setAll, List.setIfInBounds_toArray, List.set_cons_zero, List.set_cons_succ]
          obtain ⟨g, hg, hx, hJ⟩ := hq
          have e8 : u8 = .pointer (some ⟨g, 0, none⟩) := hg
          subst e8
          clear hg
          obtain ⟨⟨k1, n1, s1⟩, wv1, rfl⟩ := hs
          have x0 : w'.cell? ⟨g, 0, none⟩ = some (.int .i64 0) := hx.at_ 0
          have x1 : w'.cell? ⟨g, 1, none⟩ = some (.int .i64 0) := hx.at_ 1
          have x2 : w'.cell? ⟨g, 2, none⟩ = some (.string ⟨#[]⟩) := hx.at_ 2
          have f0 := hx.free 0
          have f1 := hx.free 1
          have f2 := hx.free 2
          have HJ := Veil.mk hJ
          have HX := Veil.mk hx
          clear hJ hx
          go_simp
          exact hK _ _ (HJ.out _ _ _ _ (((HX.out.put 0 _).put 1 _).put 2 _) (touch3 _ _ _ _ _) (by simp only [puts, setAll, List.set_cons_zero, List.set_cons_succ, List.setIfInBounds_toArray]))
        refine Steps.cons rfl (fun bb aa w' hbs hb0 hbp hI K hK => ?_) ?_
        · obtain ⟨us, hus, rfl, hI⟩ := hI
          obtain ⟨u0, u1, u2, u3, u4, u5, u6, u7, u8, u9, u10, u11, u12, u13, rfl⟩ := len14 hus
          have hch := hI.below
          have hq1 := gen_after 9 (by kernel_rfl) hbp
          have hq2 := gen_after 3 (by kernel_rfl) hbp
          have hq := gen_sto hI hus hbs 11 9 3 _ _ (by show 11 < 14; decide) (pairK_fit _ _ _ _ _) rfl rfl hb0 hq1 hq2
          have hs : ∃ x : Vt, WV x.1 x.2.1 x.2.2 ∧ u3 = valV x := hI.val 3 _ rfl hq2
          clear hI
          simp only [puts, setAll, List.setIfInBounds_toArray, List.set_cons_zero, List.set_cons_succ]
          obtain ⟨g, hg, hx, hJ⟩ := hq
          have e9 : u9 = .pointer (some ⟨g, 0, none⟩) := hg
          subst e9
          clear hg
          obtain ⟨⟨k1, n1, s1⟩, wv1, rfl⟩ := hs
          have x0 : w'.cell? ⟨g, 0, none⟩ = some (.int .i64 0) := hx.at_ 0
          have x1 : w'.cell? ⟨g, 1, none⟩ = some (.int .i64 0) := hx.at_ 1
          have x2 : w'.cell? ⟨g, 2, none⟩ = some (.string ⟨#[]⟩) := hx.at_ 2
          have f0 := hx.free 0
          have f1 := hx.free 1
          have f2 := hx.free 2
          have HJ := Veil.mk hJ
          have HX := Veil.mk hx
          clear hJ hx
          go_simp
          exact hK _ _ (HJ.out _ _ _ _ (((HX.out.put 0 _).put 1 _).put 2 _) (touch3 _ _ _ _ _) (by simp only [puts, setAll, List.set_cons_zero, List.set_cons_succ, List.setIfInBounds_toArray]))
        refine Steps.cons rfl (fun bb aa w' hbs hb0 hbp hI K hK => ?_) ?_
        · obtain ⟨us, hus, rfl, hI⟩ := hI
          obtain ⟨u0, u1, u2, u3, u4, u5, u6, u7, u8, u9, u10, u11, u12, u13, rfl⟩ := len14 hus
          have e5 : u5 = .int .i64 f := hI.val 5 _ rfl (gen_after 5 (by kernel_rfl) hbp)
          subst e5
          have hch := hI.below
          skip
          have HI := Veil.mk hI
          clear hI
          simp only [puts, setAll, List.setIfInBounds_toArray, List.set_cons_zero, List.set_cons_succ]
          go_simp
          exact hK _ _ (gen_val HI.out hus hbs 12 _ _ (by show 12 < 14; decide) (pairK_fit _ _ _ _ _) rfl hb0 rfl (Below.refl _ _) (by simp only [puts, setAll, List.set_cons_zero, List.set_cons_succ, List.setIfInBounds_toArray]))
        refine Steps.cons rfl (fun bb aa w' hbs hb0 hbp hI K hK => ?_) ?_
        · obtain ⟨us, hus, rfl, hI⟩ := hI
          obtain ⟨u0, u1, u2, u3, u4, u5, u6, u7, u8, u9, u10, u11, u12, u13, rfl⟩ := len14 hus
          have e7 : u7 = .int .i64 g := hI.val 7 _ rfl (gen_after 7 (by kernel_rfl) hbp)
          subst e7
          have hch := hI.below
          skip
          have HI := Veil.mk hI
          clear hI
          simp only [puts, setAll, List.setIfInBounds_toArray, List.set_cons_zero, List.set_cons_succ]
          go_simp
          exact hK _ _ (gen_val HI.out hus hbs 13 _ _ (by show 13 < 14; decide) (pairK_fit _ _ _ _ _) rfl hb0 rfl (Below.refl _ _) (by simp only [puts, setAll, List.set_cons_zero, List.set_cons_succ, List.setIfInBounds_toArray]))
        exact Steps.nil
      · intro us w5 hus d hd hJ
        obtain ⟨u0, u1, u2, u3, u4, u5, u6, u7, u8, u9, u10, u11, u12, u13, rfl⟩ := len14 hus
        have p1 : ∃ x : Vt, WV x.1 x.2.1 x.2.2 ∧ u1 = valV x := hJ.val 1 _ rfl (hd 1 (by show 1 < 14; decide))
        have p3 : ∃ x : Vt, WV x.1 x.2.1 x.2.2 ∧ u3 = valV x := hJ.val 3 _ rfl (hd 3 (by show 3 < 14; decide))
        have p12 : u12 = .int .i64 f := hJ.val 12 _ rfl (hd 12 (by show 12 < 14; decide))
        have p13 : u13 = .int .i64 g := hJ.val 13 _ rfl (hd 13 (by show 13 < 14; decide))
        have b8 := hJ.box 8 _ _ _ _ rfl (hd 8 (by show 8 < 14; decide))
        have b9 := hJ.box 9 _ _ _ _ rfl (hd 9 (by show 9 < 14; decide))
        rw [hd 10 (by show 10 < 14; decide)] at b8
        rw [hd 11 (by show 11 < 14; decide)] at b9
        have hbl := hJ.below
        clear hJ hd
        simp only [puts, setAll, List.setIfInBounds_toArray, List.set_cons_zero, List.set_cons_succ]
        have hP : PairP w1 f g u8 u9 u12 u13 w5 := by
          obtain ⟨x, wx, e1⟩ := p1
          obtain ⟨y, wy, e3⟩ := p3
          obtain ⟨g8, e8, -, x8⟩ := b8
          obtain ⟨g9, e9, -, x9⟩ := b9
          have f1 : uget [u0, u1, u2, u3, u4, u5, u6, u7, u8, u9, u10, u11, u12, u13] 1 = valV x := e1
          have f3 : uget [u0, u1, u2, u3, u4, u5, u6, u7, u8, u9, u10, u11, u12, u13] 3 = valV y := e3
          rw [f1] at x8
          rw [f3] at x9
          exact ⟨g8, g9, x, y, e8, e9, p12, p13, wx, wy, x8, x9, hbl⟩
        have HP := Veil.mk hP
        clear hP p1 p3 p12 p13 b8 b9 hbl
        go_wp2
        go_meet
        exact HP.out
    case rest =>
    obtain ⟨gx, gy, ⟨xk, xn, xs⟩, ⟨yk, yn, ys⟩, rfl, rfl, rfl, rfl, wx, wy, bx, by_, hbw⟩ := hcut
    replace bx : Box wc gx 82 #[.int .i64 xk, .int .i64 xn, .string xs] := bx
    replace by_ : Box wc gy 82 #[.int .i64 yk, .int .i64 yn, .string ys] := by_
    have HX := Veil.mk wx
    have hB : Below w.heap.size w wc := HBW.out.trans ((hb1.trans (hbw.mono hb1.size)).mono HBW.out.size)
    have zx := wx.size
    have HZ := Veil.mk (show xs.size ≤ 1000 from Nat.le_trans zx (by decide))
    clear wx wy zx hbw hb1 HS1 HS2 HH HV1 HV2 H1 H2 HBW HF
    obtain ⟨⟨kk, kn, ksx⟩, hkey⟩ : ∃ k, keyT (xk, xn, xs) = k := ⟨_, rfl⟩
    have HK := Veil.mk hkey
    clear hkey
    go_upto_region 7 with (first | (go_at_call 34; ((with_reducible refine (new_tf (B := w.heap.size) hB.size).mono ?_); rintro e w2 ⟨rfl, hTf, hb2⟩)))
    generalize wc.heap.size = t at hTf ⊢
    generalize (fun k => k = t) = F0 at hTf
    replace bx := bx.on hb2 bx.lt
    replace by_ := by_.on hb2 by_.lt
    replace hB := hB.trans (hb2.mono hB.size)
    clear hb2
    have x0 : w2.cell? ⟨gx, 0, none⟩ = some (.int .i64 xk) := bx.at_ 0
    have x1 : w2.cell? ⟨gx, 1, none⟩ = some (.int .i64 xn) := bx.at_ 1
    have x2 : w2.cell? ⟨gx, 2, none⟩ = some (.string xs) := bx.at_ 2
    have y0 : w2.cell? ⟨gy, 0, none⟩ = some (.int .i64 yk) := by_.at_ 0
    have y1 : w2.cell? ⟨gy, 1, none⟩ = some (.int .i64 yn) := by_.at_ 1
    have y2 : w2.cell? ⟨gy, 2, none⟩ = some (.string ys) := by_.at_ 2
    go_upto_region 8 with (first | (go_at_call 39; ((with_reducible refine (put_tf hTf (by simp) (by simp) (xk, xn, xs) (yk, yn, ys) f HZ.out).mono ?_); rintro e w3 ⟨rfl, F1, hTf', hFs⟩)))
    replace bx := hFs.val hTf bx
    replace hB := hB.trans (hFs.below hTf)
    rw [HK.out, show putO ([], []) (kk, kn, ksx) (yk, yn, ys) f = ([((kk, kn, ksx), (yk, yn, ys), f)], []) by simp [putO, hasK]] at hTf'
    clear hTf hFs x0 x1 x2 y0 y1 y2 by_
    have x0 : w3.cell? ⟨gx, 0, none⟩ = some (.int .i64 xk) := bx.at_ 0
    have x1 : w3.cell? ⟨gx, 1, none⟩ = some (.int .i64 xn) := bx.at_ 1
    have x2 : w3.cell? ⟨gx, 2, none⟩ = some (.string xs) := bx.at_ 2
    go_upto_region 9 with (first | (go_at_call 39; ((with_reducible refine (put_tf hTf' (by simp) (by simp) (9, 999, ⟨#[]⟩) (xk, xn, xs) 0 (Nat.zero_le _)).mono ?_); rintro e w4 ⟨rfl, F2, hTf, hFs⟩)))
    replace bx := hFs.val hTf' bx
    replace hB := hB.trans (hFs.below hTf')
    have hne : ¬ ((kk, kn, ksx) : Vt) = (9, 999, ⟨#[]⟩) := fun e => key_999 HX.out (HK.out.trans e)
    have HNE := Veil.mk hne
    rw [show keyT (9, 999, ⟨#[]⟩) = (9, 999, ⟨#[]⟩) by simp [keyT], flags_put2 _ _ _ _ _ HNE.out] at hTf
    clear hTf' hFs x0 x1 x2 hne
    have x0 : w4.cell? ⟨gx, 0, none⟩ = some (.int .i64 xk) := bx.at_ 0
    have x1 : w4.cell? ⟨gx, 1, none⟩ = some (.int .i64 xn) := bx.at_ 1
    have x2 : w4.cell? ⟨gx, 2, none⟩ = some (.string xs) := bx.at_ 2
    go_upto_region 10 with (first | (go_at_call 39; ((with_reducible refine (put_tf hTf (by simp) (by simp) (xk, xn, xs) (xk, xn, xs) g HZ.out).mono ?_); rintro e w5 ⟨rfl, F3, hTf', hFs⟩)))
    replace bx := hFs.val hTf bx
    replace hB := hB.trans (hFs.below hTf)
    rw [HK.out, flags_put3 _ _ _ _ _ _ HNE.out] at hTf'
    clear hTf hFs x0 x1 x2
    have x0 : w5.cell? ⟨gx, 0, none⟩ = some (.int .i64 xk) := bx.at_ 0
    have x1 : w5.cell? ⟨gx, 1, none⟩ = some (.int .i64 xn) := bx.at_ 1
    have x2 : w5.cell? ⟨gx, 2, none⟩ = some (.string xs) := bx.at_ 2
    have HG := Veil.mk (flags_get hTf' HK.out HNE.out HZ.out)
    go_upto_region 11 with (first | (go_at_call 46; ((with_reducible refine HG.out.mono ?_); rintro e w6 ⟨rfl, hb6⟩)))
    have bv := Box.new w6 82 #[.int .i64 xk, .int .i64 xn, .string xs]
    have l6 : Below w6.heap.size w6 (w6.alloc (.cells #[.int .i64 xk, .int .i64 xn, .string xs] 82)) := (Below.refl _ _).alloc (Nat.le_refl _) _
    replace l6 := blw2 hb6 l6
    generalize hgv : w6.heap.size = gv at bv ⊢
    generalize w6.alloc _ = A at bv l6 ⊢
    replace bx := bx.on l6 bx.lt
    replace hTf := hTf'.on l6
    replace hB := hB.trans (l6.mono hB.size)
    clear hTf' hgv l6 hb6 x0 x1 x2 HG
    go_upto_region 12 with (first | (go_at_call 38; ((with_reducible refine (cursor_tf hTf (by simp)).mono ?_); rintro e w7 ⟨rfl, F4, hTf', hFs⟩)))
    replace bx := hFs.val hTf bx
    replace bv := hFs.val hTf bv
    replace hB := hB.trans (hFs.below hTf)
    generalize A.heap.size = c at hTf' ⊢
    clear hTf hFs
    have HN := Veil.mk (next_tf hTf' (by simp) 0 c ((kk, kn, ksx), (xk, xn, xs), g) [((9, 999, ⟨#[]⟩), (xk, xn, xs), 0)] rfl)
    have HTf := Veil.mk hTf'
    clear hTf'
    go_upto_region 13 with (first | (go_at_call 42; ((with_reducible refine HN.out.mono ?_); rintro e w8 ⟨rfl, hTf, ht⟩)))
    replace bx := bx.touch ht (HTf.out.not_val bx)
    replace bv := bv.touch ht (HTf.out.not_val bv)
    replace hB := hB.trans (ht.below hB.size (fun k hk => (HTf.out.lt k hk).1))
    have bn := two_box w8 (#[.int .i64 kk, .int .i64 kn, .string ksx]) (#[.int .i64 xk, .int .i64 xn, .string xs])
    have l8 := two_below w8 (#[.int .i64 kk, .int .i64 kn, .string ksx]) (#[.int .i64 xk, .int .i64 xn, .string xs])
    generalize hgn : w8.heap.size = gn at bn ⊢
    generalize (w8.alloc _).alloc _ = D at bn l8 ⊢
    replace bx := bx.on l8 bx.lt
    replace bv := bv.on l8 bv.lt
    replace hTf := hTf.on l8
    replace hB := hB.trans (l8.mono hB.size)
    clear l8 hgn HN HTf ht
    have HBD := Veil.mk hB
    clear hB
    have n0 : D.cell? ⟨gn, 0, none⟩ = some (.int .i64 kk) := bn.at_ 0
    have n1 : D.cell? ⟨gn, 1, none⟩ = some (.int .i64 kn) := bn.at_ 1
    have n2 : D.cell? ⟨gn, 2, none⟩ = some (.string ksx) := bn.at_ 2
    have x0 : D.cell? ⟨gx, 0, none⟩ = some (.int .i64 xk) := bx.at_ 0
    have x1 : D.cell? ⟨gx, 1, none⟩ = some (.int .i64 xn) := bx.at_ 1
    have x2 : D.cell? ⟨gx, 2, none⟩ = some (.string xs) := bx.at_ 2
    have v0 : D.cell? ⟨gv, 0, none⟩ = some (.int .i64 xk) := bv.at_ 0
    have v1 : D.cell? ⟨gv, 1, none⟩ = some (.int .i64 xn) := bv.at_ 1
    have v2 : D.cell? ⟨gv, 2, none⟩ = some (.string xs) := bv.at_ 2
    have HL := Veil.mk (len_tb hTf.tb)
    have hc := key_cases HK.out
    clear bx bv bn hTf HX HK HNE HZ
    rcases hc with ⟨rfl, rfl, rfl, rfl⟩ | ⟨rfl, rfl, rfl⟩
    all_goals
      go_wp2_with (first | (go_at_call 41; ((with_reducible refine HL.out.mono ?_); rintro e w9 ⟨rfl, rfl⟩)))
      go_ret
      exact ⟨rfl, HBD.out⟩
  · have h2 : (100 : Int) < (la : Int) ∨ (100 : Int) < (lb : Int) := by omega
    have H2' := Veil.mk h2
    clear h1 h2 hl hr H1 H2
    go_enter Try.func13, Try.ntmps13
    go_upto_region 1 with (fail)
    rw [← HW.out.1, HW.out.2.2.2, HW.out.2.2.1, HW.out.2.1]
    clear HW
    go_upto_region 3 with (first | (go_at_call 32; ((with_reducible refine (HF.out _).mono ?_); rintro e w1 ⟨rfl, hb1⟩)))
    have c2 : w1.cell? ⟨ga, 2, none⟩ = some (.slice a la ca) := (b1.on hb1 b1.lt).at_ 2
    have d2 : w1.cell? ⟨gb, 2, none⟩ = some (.slice b lb cb) := (b2.on hb1 b2.lt).at_ 2
    clear b1 b2 b3
    have HB1 := Veil.mk (HBW.out.trans (hb1.mono HBW.out.size))
    clear hb1
    by_cases h3 : (100 : Int) < (la : Int)
    · go_wp2
      go_ret
      exact ⟨rfl, HB1.out⟩
    · have h4 : (100 : Int) < (lb : Int) := by
        rcases H2'.out with h | h
        · exact (h3 h).elim
        · exact h
      go_wp2
      go_ret
      exact ⟨rfl, HB1.out⟩
end Go.Proofs.Ythlhchaapdhbfaa
