/- The law's pair: play at a new cursor. -/
import Derived.Test.YthlhchaapdhbfaaHa
namespace Go.Proofs.Ythlhchaapdhbfaa
open Go Go.RowKit

theorem len34 {α : Type} {us : List α} (h : us.length = 34) : ∃ a0 a1 a2 a3 a4 a5 a6 a7 a8 a9 a10 a11 a12 a13 a14 a15 a16 a17 a18 a19 a20 a21 a22 a23 a24 a25 a26 a27 a28 a29 a30 a31 a32 a33, us = a0 :: a1 :: a2 :: a3 :: a4 :: a5 :: a6 :: a7 :: a8 :: a9 :: a10 :: a11 :: a12 :: a13 :: a14 :: a15 :: a16 :: a17 :: a18 :: a19 :: a20 :: a21 :: a22 :: a23 :: a24 :: a25 :: a26 :: a27 :: a28 :: a29 :: a30 :: a31 :: a32 :: a33 :: [] := by
  match us, h with
  | a0 :: a1 :: a2 :: a3 :: a4 :: a5 :: a6 :: a7 :: a8 :: a9 :: a10 :: a11 :: a12 :: a13 :: a14 :: a15 :: a16 :: a17 :: a18 :: a19 :: a20 :: a21 :: a22 :: a23 :: a24 :: a25 :: a26 :: a27 :: a28 :: a29 :: a30 :: a31 :: a32 :: a33 :: [], _ => exact ⟨a0, a1, a2, a3, a4, a5, a6, a7, a8, a9, a10, a11, a12, a13, a14, a15, a16, a17, a18, a19, a20, a21, a22, a23, a24, a25, a26, a27, a28, a29, a30, a31, a32, a33, rfl⟩
theorem one_cell {w : World} {b : Nat} {v : Value} (h : w.cell? ⟨b, 0, none⟩ = some v) : ∀ j u, [v][j]? = some u → w.cell? ((⟨b, 0, none⟩ : Addr).add j) = some u := by
  intro j u hj
  cases j with
  | zero =>
    cases hj
    rw [show ((⟨b, 0, none⟩ : Addr).add 0) = ⟨b, 0, none⟩ from rfl]
    exact h
  | succ j => simp at hj
def curK (gb t gm : Nat) (cl : Int) (n : Nat) (ca da : Option Addr) (cc dc : Nat) : List (Option (Value → Prop)) := some (· = .pointer (some ⟨gb, 0, none⟩)) :: some (· = .pointer (some ⟨gb, 0, none⟩)) :: some (· = .pointer (some ⟨gb, 0, none⟩)) :: some (· = .pointer (some ⟨gb, 0, none⟩)) :: some (· = .pointer (some ⟨gb, 2, none⟩)) :: some (· = .slice ca n cc) :: some (· = .pointer (some ⟨gb, 0, none⟩)) :: some (· = .pointer (some ⟨gb, 0, none⟩)) :: some (· = .pointer (some ⟨gb, 0, none⟩)) :: some (· = .pointer (some ⟨t, 0, none⟩)) :: none :: none :: none :: some (· = .pointer (some ⟨gb, 0, none⟩)) :: some (· = .pointer (some ⟨gb, 0, none⟩)) :: some (· = .pointer (some ⟨gb, 3, none⟩)) :: some (· = .slice da n dc) :: some (· = .pointer (some ⟨gb, 0, none⟩)) :: some (· = .pointer (some ⟨gb, 0, none⟩)) :: some (· = .pointer (some ⟨gb, 1, none⟩)) :: some (· = .pointer (some ⟨gm, 0, none⟩)) :: some (· = .pointer (some ⟨gm, 0, none⟩)) :: some (· = .pointer (some ⟨gm, 1, none⟩)) :: some (· = .int .i64 cl) :: some (· = .agg #[.int .i64 0, .int .i64 cl, .bool false]) :: none :: none :: none :: some (· = .pointer (some ⟨gb, 0, none⟩)) :: some (· = .pointer (some ⟨gb, 2, none⟩)) :: none :: some (· = .pointer (some ⟨gb, 0, none⟩)) :: some (· = .pointer (some ⟨gb, 3, none⟩)) :: none :: []
abbrev curSl : List (Option Nat) := some 142 :: some 143 :: some 144 :: some 145 :: some 146 :: some 147 :: some 148 :: some 149 :: some 150 :: some 151 :: some 152 :: some 153 :: some 154 :: some 155 :: some 156 :: some 157 :: some 158 :: some 159 :: some 160 :: some 161 :: some 162 :: some 163 :: some 164 :: some 165 :: some 166 :: some 167 :: some 168 :: some 169 :: some 170 :: some 171 :: none :: some 172 :: some 173 :: none :: []
theorem Try.infoR : (Try.prog.info? 123).map (fun i => (i.zero, i.size, i.bytes)) = some (some (.pointer none), 1, 8) := by kernel_rfl
set_option maxHeartbeats 4000000 in
set_option maxRecDepth 100000 in
theorem play_cursor (B gb t gm : Nat) (F : Nat → Prop) (O : Ob) (l : List Re) (cl : Int) (vl vc vd : Value) (cs : List Cu) (hdn : Dn cs) (hl : l.length < 20000) (hcs : cs.length < 900) (_ : 0 ≤ cl) (_ : cl < 10000) (c : CallD) (hkind : (c.kind.tmod 7 + 7) % 7 = 4) (h7 : 0 < c.kind.tmod 7 + 7) (h8 : c.kind.tmod 7 < 7) (hlen : c.len ≤ 100) (hlt : ∀ u ∈ c.l, u < 65536) (w : World) (hnum : W.Nums .u16 w c.a c.len c.l) (h : BS w B gb t gm F O l cl vl vc vd cs) :
    Calls Try.prog 35 #[.pointer (some ⟨gb, 0, none⟩), callV c] w (PlayR B gb t gm l cl cs w) := by
  have hkt : (c.kind.tmod 7 + 7).tmod 7 = 4 := by rw [Int.tmod_eq_emod_of_nonneg (by omega)]; exact hkind
  obtain ⟨m, hm, hm2⟩ := mask 16 (by omega) c.val
  rw [show ((2 ^ 16 - 1 : Nat) : Int) = 65535 from rfl] at hm
  obtain ⟨q, hq, hq2⟩ := mask 4 (by omega) c.n
  rw [show ((2 ^ 4 - 1 : Nat) : Int) = 15 from rfl] at hq
  obtain ⟨W, hW⟩ : ∃ W, W = w.alloc (.cells (callC c) 79) := ⟨_, rfl⟩
  have hBW : Below w.heap.size w W := by rw [hW]; exact (Below.refl _ _).alloc (Nat.le_refl _) _
  obtain ⟨g3, hg3⟩ : ∃ n, w.heap.size = n := ⟨_, rfl⟩
  have b3 : Box W g3 79 (callC c) := by rw [hW, ← hg3]; exact Box.new w _ _
  have hS := h.on hBW
  have HW := Veil.mk (And.intro hW hg3)
  have HS0 := Veil.mk hS
  have HC3 := Veil.mk b3
  have HM := Veil.mk hm
  have HQ := Veil.mk hq
  have HKT := Veil.mk (And.intro hkt hkind)
  have HNW := Veil.mk (hnum.on hBW)
  have HV : Veil (∀ w', Below W.heap.size W w' → Calls Try.prog 44 #[seedV c.kk c.kn c.a c.len c.cap] w' (SeedPost w')) := ⟨fun w' hb => seed_val c.kk c.kn c.a c.len c.cap c.l hlen hlt w' (HNW.out.on hb)⟩
  have hBs : B ≤ w.heap.size := h.tf.le
  have HBW := Veil.mk hBW
  clear hW hg3 hS b3 hm hq hkt hkind hBW hnum hlt h
  go_enter Try.func35, Try.ntmps35
  go_upto_region 1 with (fail)
  rw [← HW.out.1, HW.out.2]
  clear HW
  go_cut [5, 6] (fun s5 s6 wx => PlayP W (m : Int) s5 s6 wx)
  case first =>
    refine wp_region_gen (playK g3 (seedV c.kk c.kn c.a c.len c.cap) c.val (m : Int)) playS (List.replicate 11 undef) (by kernel_rfl) rfl rfl (by simp only [puts, setAll, List.replicate, List.set_cons_zero, List.set_cons_succ, List.setIfInBounds_toArray]) ?_ (by kernel_rfl) ?_
    · refine Steps.cons rfl (fun bb aa w' hbs hb0 hbp hI K hK => ?_) ?_
      · obtain ⟨us, hus, rfl, hI⟩ := hI
        obtain ⟨u0, u1, u2, u3, u4, u5, u6, u7, u8, u9, u10, rfl⟩ := len11 hus
        have hch := hI.below
        skip
        have HI := Veil.mk hI
        clear hI
        simp only [puts, setAll, List.setIfInBounds_toArray, List.set_cons_zero, List.set_cons_succ]
        go_simp
        exact hK _ _ (gen_val HI.out hus hbs 0 _ _ (by show 0 < 11; decide) (playK_fit _ _ _ _) rfl hb0 rfl (Below.refl _ _) (by simp only [puts, setAll, List.set_cons_zero, List.set_cons_succ, List.setIfInBounds_toArray]))
      refine Steps.cons rfl (fun bb aa w' hbs hb0 hbp hI K hK => ?_) ?_
      · obtain ⟨us, hus, rfl, hI⟩ := hI
        obtain ⟨u0, u1, u2, u3, u4, u5, u6, u7, u8, u9, u10, rfl⟩ := len11 hus
        have e0 : u0 = .pointer (some ⟨g3, 1, none⟩) := hI.val 0 _ rfl (gen_after 0 (by kernel_rfl) hbp)
        subst e0
        have hch := hI.below
        have q := HC3.out.on hch HC3.out.lt; have c1 : w'.cell? ⟨g3, 1, none⟩ = some (.int .i64 c.kk) := q.at_ 1; have c2 : w'.cell? ⟨g3, 2, none⟩ = some (.int .i64 c.kn) := q.at_ 2; have c3 : w'.cell? ⟨g3, 3, none⟩ = some (.slice c.a c.len c.cap) := q.at_ 3; clear q
        have HI := Veil.mk hI
        clear hI
        simp only [puts, setAll, List.setIfInBounds_toArray, List.set_cons_zero, List.set_cons_succ]
        go_simp
        exact hK _ _ (gen_val HI.out hus hbs 1 _ _ (by show 1 < 11; decide) (playK_fit _ _ _ _) rfl hb0 rfl (Below.refl _ _) (by simp only [puts, setAll, List.set_cons_zero, List.set_cons_succ, List.setIfInBounds_toArray]))
      refine Steps.cons rfl (fun bb aa w' hbs hb0 hbp hI K hK => ?_) ?_
      · obtain ⟨us, hus, rfl, hI⟩ := hI
        obtain ⟨u0, u1, u2, u3, u4, u5, u6, u7, u8, u9, u10, rfl⟩ := len11 hus
        have e1 : u1 = (seedV c.kk c.kn c.a c.len c.cap) := hI.val 1 _ rfl (gen_after 1 (by kernel_rfl) hbp)
        subst e1
        have hch := hI.below
        have HI := Veil.mk hI
        clear hI
        simp only [puts, setAll, List.setIfInBounds_toArray, List.set_cons_zero, List.set_cons_succ]
        go_simp
        refine (HV.out w' hch).mono ?_
        intro e w2 hp
        obtain ⟨k1, n1, s1, wv1, rfl, hb2⟩ := hp
        go_simp
        exact hK _ _ (gen_val HI.out hus hbs 2 _ _ (by show 2 < 11; decide) (playK_fit _ _ _ _) rfl hb0 ⟨(k1, n1, s1), wv1, rfl⟩ hb2 (by simp only [puts, setAll, List.set_cons_zero, List.set_cons_succ, List.setIfInBounds_toArray]))
      refine Steps.cons rfl (fun bb aa w' hbs hb0 hbp hI K hK => ?_) ?_
      · obtain ⟨us, hus, rfl, hI⟩ := hI
        obtain ⟨u0, u1, u2, u3, u4, u5, u6, u7, u8, u9, u10, rfl⟩ := len11 hus
        have hch := hI.below
        skip
        have HI := Veil.mk hI
        clear hI
        simp only [puts, setAll, List.setIfInBounds_toArray, List.set_cons_zero, List.set_cons_succ]
        go_simp
        exact hK _ _ (gen_val HI.out hus hbs 3 _ _ (by show 3 < 11; decide) (playK_fit _ _ _ _) rfl hb0 rfl (Below.refl _ _) (by simp only [puts, setAll, List.set_cons_zero, List.set_cons_succ, List.setIfInBounds_toArray]))
      refine Steps.cons rfl (fun bb aa w' hbs hb0 hbp hI K hK => ?_) ?_
      · obtain ⟨us, hus, rfl, hI⟩ := hI
        obtain ⟨u0, u1, u2, u3, u4, u5, u6, u7, u8, u9, u10, rfl⟩ := len11 hus
        have e3 : u3 = .pointer (some ⟨g3, 4, none⟩) := hI.val 3 _ rfl (gen_after 3 (by kernel_rfl) hbp)
        subst e3
        have hch := hI.below
        have q := HC3.out.on hch HC3.out.lt; have c4 : w'.cell? ⟨g3, 4, none⟩ = some (.int .i64 c.val) := q.at_ 4; clear q
        have HI := Veil.mk hI
        clear hI
        simp only [puts, setAll, List.setIfInBounds_toArray, List.set_cons_zero, List.set_cons_succ]
        go_simp
        exact hK _ _ (gen_val HI.out hus hbs 4 _ _ (by show 4 < 11; decide) (playK_fit _ _ _ _) rfl hb0 rfl (Below.refl _ _) (by simp only [puts, setAll, List.set_cons_zero, List.set_cons_succ, List.setIfInBounds_toArray]))
      refine Steps.cons rfl (fun bb aa w' hbs hb0 hbp hI K hK => ?_) ?_
      · obtain ⟨us, hus, rfl, hI⟩ := hI
        obtain ⟨u0, u1, u2, u3, u4, u5, u6, u7, u8, u9, u10, rfl⟩ := len11 hus
        have e4 : u4 = .int .i64 c.val := hI.val 4 _ rfl (gen_after 4 (by kernel_rfl) hbp)
        subst e4
        have hch := hI.below
        have hm := HM.out
        have HI := Veil.mk hI
        clear hI
        simp only [puts, setAll, List.setIfInBounds_toArray, List.set_cons_zero, List.set_cons_succ]
        go_simp
        exact hK _ _ (gen_val HI.out hus hbs 5 _ _ (by show 5 < 11; decide) (playK_fit _ _ _ _) rfl hb0 rfl (Below.refl _ _) (by simp only [puts, setAll, List.set_cons_zero, List.set_cons_succ, List.setIfInBounds_toArray]))
      refine Steps.cons rfl (fun bb aa w' hbs hb0 hbp hI K hK => ?_) ?_
      · obtain ⟨us, hus, rfl, hI⟩ := hI
        obtain ⟨u0, u1, u2, u3, u4, u5, u6, u7, u8, u9, u10, rfl⟩ := len11 hus
        have e5 : u5 = .int .i64 (m : Int) := hI.val 5 _ rfl (gen_after 5 (by kernel_rfl) hbp)
        subst e5
        have hch := hI.below
        skip
        have HI := Veil.mk hI
        clear hI
        simp only [puts, setAll, List.setIfInBounds_toArray, List.set_cons_zero, List.set_cons_succ]
        go_simp
        exact hK _ _ (gen_val HI.out hus hbs 6 _ _ (by show 6 < 11; decide) (playK_fit _ _ _ _) rfl hb0 rfl (Below.refl _ _) (by simp only [puts, setAll, List.set_cons_zero, List.set_cons_succ, List.setIfInBounds_toArray]))
      refine Steps.cons rfl (fun bb aa w' hbs hb0 hbp hI K hK => ?_) ?_
      · obtain ⟨us, hus, rfl, hI⟩ := hI
        obtain ⟨u0, u1, u2, u3, u4, u5, u6, u7, u8, u9, u10, rfl⟩ := len11 hus
        have hch := hI.below
        have HI := Veil.mk hI
        clear hI
        simp only [puts, setAll, List.setIfInBounds_toArray, List.set_cons_zero, List.set_cons_succ]
        go_simp
        exact hK _ _ (gen_box HI.out hus hbs 7 _ _ _ _ (by show 7 < 11; decide) (playK_fit _ _ _ _) rfl hb0 (by simp only [puts, setAll, List.set_cons_zero, List.set_cons_succ, List.setIfInBounds_toArray]))
      refine Steps.cons rfl (fun bb aa w' hbs hb0 hbp hI K hK => ?_) ?_
      · obtain ⟨us, hus, rfl, hI⟩ := hI
        obtain ⟨u0, u1, u2, u3, u4, u5, u6, u7, u8, u9, u10, rfl⟩ := len11 hus
        have hch := hI.below
        have HI := Veil.mk hI
        clear hI
        simp only [puts, setAll, List.setIfInBounds_toArray, List.set_cons_zero, List.set_cons_succ]
        go_simp
        exact hK _ _ (gen_box HI.out hus hbs 8 _ _ _ _ (by show 8 < 11; decide) (playK_fit _ _ _ _) rfl hb0 (by simp only [puts, setAll, List.set_cons_zero, List.set_cons_succ, List.setIfInBounds_toArray]))
      refine Steps.cons rfl (fun bb aa w' hbs hb0 hbp hI K hK => ?_) ?_
      · obtain ⟨us, hus, rfl, hI⟩ := hI
        obtain ⟨u0, u1, u2, u3, u4, u5, u6, u7, u8, u9, u10, rfl⟩ := len11 hus
        have hch := hI.below
        have hq1 := gen_after 7 (by kernel_rfl) hbp
        have hq2 := gen_after 2 (by kernel_rfl) hbp
        have hq := gen_sto hI hus hbs 9 7 2 _ _ (by show 9 < 11; decide) (playK_fit _ _ _ _) rfl rfl hb0 hq1 hq2
        have hs : ∃ x : Vt, WV x.1 x.2.1 x.2.2 ∧ u2 = valV x := hI.val 2 _ rfl hq2
        clear hI
        simp only [puts, setAll, List.setIfInBounds_toArray, List.set_cons_zero, List.set_cons_succ]
        obtain ⟨g, hg, hx, hJ⟩ := hq
        have e7 : u7 = .pointer (some ⟨g, 0, none⟩) := hg
        subst e7
        clear hg
        obtain ⟨⟨k1, n1, s1⟩, wv1, rfl⟩ := hs
        have x0 : w'.cell? ⟨g, 0, none⟩ = some (.int .i64 0) := hx.at_ 0
        have x1 : w'.cell? ⟨g, 1, none⟩ = some (.int .i64 0) := hx.at_ 1
        have x2 : w'.cell? ⟨g, 2, none⟩ = some (.string ⟨#[]⟩) := hx.at_ 2
        have f0 := hx.free 0
        have f1 := hx.free 1
        have f2 := hx.free 2
        have HJ := Veil.mk hJ
        have HX := Veil.mk hx
        clear hJ hx
        go_simp
        exact hK _ _ (HJ.out _ _ _ _ (((HX.out.put 0 _).put 1 _).put 2 _) (touch3 _ _ _ _ _) (by simp only [puts, setAll, List.set_cons_zero, List.set_cons_succ, List.setIfInBounds_toArray]))
      refine Steps.cons rfl (fun bb aa w' hbs hb0 hbp hI K hK => ?_) ?_
      · obtain ⟨us, hus, rfl, hI⟩ := hI
        obtain ⟨u0, u1, u2, u3, u4, u5, u6, u7, u8, u9, u10, rfl⟩ := len11 hus
        have hch := hI.below
        have hq1 := gen_after 8 (by kernel_rfl) hbp
        have hq2 := gen_after 6 (by kernel_rfl) hbp
        have hq := gen_sto hI hus hbs 10 8 6 _ _ (by show 10 < 11; decide) (playK_fit _ _ _ _) rfl rfl hb0 hq1 hq2
        have hs : u6 = .agg #[.int .i64 3, .int .i64 (m : Int), .string ⟨#[]⟩] := hI.val 6 _ rfl hq2
        clear hI
        simp only [puts, setAll, List.setIfInBounds_toArray, List.set_cons_zero, List.set_cons_succ]
        obtain ⟨g, hg, hx, hJ⟩ := hq
        have e8 : u8 = .pointer (some ⟨g, 0, none⟩) := hg
        subst e8
        clear hg
        subst hs
        have x0 : w'.cell? ⟨g, 0, none⟩ = some (.int .i64 0) := hx.at_ 0
        have x1 : w'.cell? ⟨g, 1, none⟩ = some (.int .i64 0) := hx.at_ 1
        have x2 : w'.cell? ⟨g, 2, none⟩ = some (.string ⟨#[]⟩) := hx.at_ 2
        have f0 := hx.free 0
        have f1 := hx.free 1
        have f2 := hx.free 2
        have HJ := Veil.mk hJ
        have HX := Veil.mk hx
        clear hJ hx
        go_simp
        exact hK _ _ (HJ.out _ _ _ _ (((HX.out.put 0 _).put 1 _).put 2 _) (touch3 _ _ _ _ _) (by simp only [puts, setAll, List.set_cons_zero, List.set_cons_succ, List.setIfInBounds_toArray]))
      exact Steps.nil
    · intro us w5 hus d hd hJ
      obtain ⟨u0, u1, u2, u3, u4, u5, u6, u7, u8, u9, u10, rfl⟩ := len11 hus
      have p2 : ∃ x : Vt, WV x.1 x.2.1 x.2.2 ∧ u2 = valV x := hJ.val 2 _ rfl (hd 2 (by show 2 < 11; decide))
      have p6 : u6 = .agg #[.int .i64 3, .int .i64 (m : Int), .string ⟨#[]⟩] := hJ.val 6 _ rfl (hd 6 (by show 6 < 11; decide))
      have b7 := hJ.box 7 _ _ _ _ rfl (hd 7 (by show 7 < 11; decide))
      have b8 := hJ.box 8 _ _ _ _ rfl (hd 8 (by show 8 < 11; decide))
      rw [hd 9 (by show 9 < 11; decide)] at b7
      rw [hd 10 (by show 10 < 11; decide)] at b8
      have hbl := hJ.below
      clear hJ hd
      simp only [puts, setAll, List.setIfInBounds_toArray, List.set_cons_zero, List.set_cons_succ]
      have hP : PlayP W (m : Int) u7 u8 w5 := by
        obtain ⟨x, wx, e2⟩ := p2
        obtain ⟨ga, e7, -, x7⟩ := b7
        obtain ⟨gz, e8, -, x8⟩ := b8
        have f2 : uget [u0, u1, u2, u3, u4, u5, u6, u7, u8, u9, u10] 2 = valV x := e2
        have f6 : uget [u0, u1, u2, u3, u4, u5, u6, u7, u8, u9, u10] 6 = .agg #[.int .i64 3, .int .i64 (m : Int), .string ⟨#[]⟩] := p6
        rw [f2] at x7
        rw [f6] at x8
        exact ⟨ga, gz, x, e7, e8, wx, x7, x8, hbl⟩
      have HP := Veil.mk hP
      clear hP p2 p6 b7 b8 hbl
      go_wp2
      go_meet
      exact HP.out
  case rest =>
  obtain ⟨g5, g6, ⟨xk, xn, xs⟩, rfl, rfl, wx, b5, b6, hbw⟩ := hcut
  replace b5 : Box wc g5 82 #[.int .i64 xk, .int .i64 xn, .string xs] := b5
  replace b6 : Box wc g6 82 #[.int .i64 3, .int .i64 (m : Int), .string ⟨#[]⟩] := b6
  have HZ := Veil.mk (show xs.size ≤ 1000 from Nat.le_trans wx.size (by decide))
  have hS := HS0.out.on hbw
  have hc3 := HC3.out.on hbw HC3.out.lt
  have hBc : Below w.heap.size w wc := HBW.out.trans (hbw.mono HBW.out.size)
  clear wx HV HNW HS0 HC3 HM hbw
  have HS := Veil.mk hS
  have H5 := Veil.mk b5
  have H6 := Veil.mk b6
  have H3 := Veil.mk hc3
  have HBc := Veil.mk hBc
  have c30 : wc.cell? ⟨g3, 0, none⟩ = some (.int .i64 c.kind) := hc3.at_ 0
  have hkt := HKT.out.1
  have hkind := HKT.out.2
  clear hS b5 b6 hc3 hBc HKT
  go_upto_region 18 with (fail)
  clear c30
  obtain ⟨iC, hiC, hiC0, hiC1, hiC2⟩ := info_parts Try.infoC
  obtain ⟨iR, hiR, hiR0, hiR1, hiR2⟩ := info_parts Try.infoR
  obtain ⟨ca, cc, rfl, hcc, hcg, hcm⟩ := slice_own HS.out.cp.rc
  obtain ⟨da, dc, rfl, hdc, hdg, hdm⟩ := slice_own HS.out.cp.rd
  have HHI := Veil.mk (And.intro hiC (And.intro hiC0 (And.intro hiC1 (And.intro hiC2 (And.intro hiR (And.intro hiR0 (And.intro hiR1 hiR2)))))))
  clear hiC hiC0 hiC1 hiC2 hiR hiR0 hiR1 hiR2
  have x2 : wc.cell? ⟨gb, 2, none⟩ = some (.slice ca cs.length cc) := HS.out.box.at_ 2
  have hO2 : O.2.length ≤ cs.length := by
    rw [HS.out.curs.length_eq, List.length_map]
    exact List.length_filter_le _ _
  by_cases h40 : cs.length < 40
  · have h40' : (cs.length : Int) < 40 := by omega
    go_upto_region 19 with (fail)
    clear x2 hkt hkind
    refine wp_region_chain (curK gb t gm cl cs.length ca da cc dc) (CPh B gb t gm l cl vl cs wc O (.slice ca cs.length cc) (.slice da cs.length dc)) curSl (curV' _ curSl) (by kernel_rfl) rfl rfl (puts_cur _ _) (HS.out.cph _) ?_ (by kernel_rfl) ?_
    · obtain ⟨hiC, hiC0, hiC1, hiC2, hiR, hiR0, hiR1, hiR2⟩ := HHI.out
      refine Steps.cons rfl (fun bb aa w' hbs hb0 hbp hI K hK => ?_) ?_
      · obtain ⟨us, hus, ha, hI⟩ := hI
        obtain ⟨u0, u1, u2, u3, u4, u5, u6, u7, u8, u9, u10, u11, u12, u13, u14, u15, u16, u17, u18, u19, u20, u21, u22, u23, u24, u25, u26, u27, u28, u29, u30, u31, u32, u33, rfl⟩ := len34 hus
        have HI := Veil.mk hI
        clear hI
        rw [ha]
        simp only [puts, setAll, List.setIfInBounds_toArray, List.set_cons_zero, List.set_cons_succ]
        go_simp
        exact hK _ _ (chain_step HI.out hus hbs 0 _ (by show 0 < 34; decide) rfl hbp (val_of rfl rfl) (HI.out.ph.step 0 _ (by decide)) (by simp only [puts, setAll, List.set_cons_zero, List.set_cons_succ, List.setIfInBounds_toArray]))
      refine Steps.cons rfl (fun bb aa w' hbs hb0 hbp hI K hK => ?_) ?_
      · obtain ⟨us, hus, ha, hI⟩ := hI
        obtain ⟨u0, u1, u2, u3, u4, u5, u6, u7, u8, u9, u10, u11, u12, u13, u14, u15, u16, u17, u18, u19, u20, u21, u22, u23, u24, u25, u26, u27, u28, u29, u30, u31, u32, u33, rfl⟩ := len34 hus
        have HI := Veil.mk hI
        clear hI
        rw [ha]
        simp only [puts, setAll, List.setIfInBounds_toArray, List.set_cons_zero, List.set_cons_succ]
        go_simp
        exact hK _ _ (chain_step HI.out hus hbs 1 _ (by show 1 < 34; decide) rfl hbp (val_of rfl rfl) (HI.out.ph.step 1 _ (by decide)) (by simp only [puts, setAll, List.set_cons_zero, List.set_cons_succ, List.setIfInBounds_toArray]))
      refine Steps.cons rfl (fun bb aa w' hbs hb0 hbp hI K hK => ?_) ?_
      · obtain ⟨us, hus, ha, hI⟩ := hI
        obtain ⟨u0, u1, u2, u3, u4, u5, u6, u7, u8, u9, u10, u11, u12, u13, u14, u15, u16, u17, u18, u19, u20, u21, u22, u23, u24, u25, u26, u27, u28, u29, u30, u31, u32, u33, rfl⟩ := len34 hus
        have HI := Veil.mk hI
        clear hI
        rw [ha]
        simp only [puts, setAll, List.setIfInBounds_toArray, List.set_cons_zero, List.set_cons_succ]
        go_simp
        exact hK _ _ (chain_step HI.out hus hbs 2 _ (by show 2 < 34; decide) rfl hbp (val_of rfl rfl) (HI.out.ph.step 2 _ (by decide)) (by simp only [puts, setAll, List.set_cons_zero, List.set_cons_succ, List.setIfInBounds_toArray]))
      refine Steps.cons rfl (fun bb aa w' hbs hb0 hbp hI K hK => ?_) ?_
      · obtain ⟨us, hus, ha, hI⟩ := hI
        obtain ⟨u0, u1, u2, u3, u4, u5, u6, u7, u8, u9, u10, u11, u12, u13, u14, u15, u16, u17, u18, u19, u20, u21, u22, u23, u24, u25, u26, u27, u28, u29, u30, u31, u32, u33, rfl⟩ := len34 hus
        have e2 : u2 = .pointer (some ⟨gb, 0, none⟩) := hI.val 2 _ rfl (gen_after 2 (by kernel_rfl) hbp)
        subst e2
        have HI := Veil.mk hI
        clear hI
        rw [ha]
        simp only [puts, setAll, List.setIfInBounds_toArray, List.set_cons_zero, List.set_cons_succ]
        go_simp
        exact hK _ _ (chain_step HI.out hus hbs 3 _ (by show 3 < 34; decide) rfl hbp (val_of rfl rfl) (HI.out.ph.step 3 _ (by decide)) (by simp only [puts, setAll, List.set_cons_zero, List.set_cons_succ, List.setIfInBounds_toArray]))
      refine Steps.cons rfl (fun bb aa w' hbs hb0 hbp hI K hK => ?_) ?_
      · obtain ⟨us, hus, ha, hI⟩ := hI
        obtain ⟨u0, u1, u2, u3, u4, u5, u6, u7, u8, u9, u10, u11, u12, u13, u14, u15, u16, u17, u18, u19, u20, u21, u22, u23, u24, u25, u26, u27, u28, u29, u30, u31, u32, u33, rfl⟩ := len34 hus
        have e3 : u3 = .pointer (some ⟨gb, 0, none⟩) := hI.val 3 _ rfl (gen_after 3 (by kernel_rfl) hbp)
        subst e3
        have HI := Veil.mk hI
        clear hI
        rw [ha]
        simp only [puts, setAll, List.setIfInBounds_toArray, List.set_cons_zero, List.set_cons_succ]
        go_simp
        exact hK _ _ (chain_step HI.out hus hbs 4 _ (by show 4 < 34; decide) rfl hbp (val_of rfl rfl) (HI.out.ph.step 4 _ (by decide)) (by simp only [puts, setAll, List.set_cons_zero, List.set_cons_succ, List.setIfInBounds_toArray]))
      refine Steps.cons rfl (fun bb aa w' hbs hb0 hbp hI K hK => ?_) ?_
      · obtain ⟨us, hus, ha, hI⟩ := hI
        obtain ⟨u0, u1, u2, u3, u4, u5, u6, u7, u8, u9, u10, u11, u12, u13, u14, u15, u16, u17, u18, u19, u20, u21, u22, u23, u24, u25, u26, u27, u28, u29, u30, u31, u32, u33, rfl⟩ := len34 hus
        have e4 : u4 = .pointer (some ⟨gb, 2, none⟩) := hI.val 4 _ rfl (gen_after 4 (by kernel_rfl) hbp)
        subst e4
        have h12 := hI.before 12 5 rfl (by kernel_rfl) hb0
        have h30 := hI.before 30 12 rfl (by kernel_rfl) h12
        have c0 : w'.cell? ⟨gb, 2, none⟩ = some (.slice ca cs.length cc) := hI.ph.c2 h30
        have HI := Veil.mk hI
        clear hI
        clear h30
        clear h12
        rw [ha]
        simp only [puts, setAll, List.setIfInBounds_toArray, List.set_cons_zero, List.set_cons_succ]
        go_simp
        exact hK _ _ (chain_step HI.out hus hbs 5 _ (by show 5 < 34; decide) rfl hbp (val_of rfl rfl) (HI.out.ph.step 5 _ (by decide)) (by simp only [puts, setAll, List.set_cons_zero, List.set_cons_succ, List.setIfInBounds_toArray]))
      refine Steps.cons rfl (fun bb aa w' hbs hb0 hbp hI K hK => ?_) ?_
      · obtain ⟨us, hus, ha, hI⟩ := hI
        obtain ⟨u0, u1, u2, u3, u4, u5, u6, u7, u8, u9, u10, u11, u12, u13, u14, u15, u16, u17, u18, u19, u20, u21, u22, u23, u24, u25, u26, u27, u28, u29, u30, u31, u32, u33, rfl⟩ := len34 hus
        have HI := Veil.mk hI
        clear hI
        rw [ha]
        simp only [puts, setAll, List.setIfInBounds_toArray, List.set_cons_zero, List.set_cons_succ]
        go_simp
        exact hK _ _ (chain_step HI.out hus hbs 6 _ (by show 6 < 34; decide) rfl hbp (val_of rfl rfl) (HI.out.ph.step 6 _ (by decide)) (by simp only [puts, setAll, List.set_cons_zero, List.set_cons_succ, List.setIfInBounds_toArray]))
      refine Steps.cons rfl (fun bb aa w' hbs hb0 hbp hI K hK => ?_) ?_
      · obtain ⟨us, hus, ha, hI⟩ := hI
        obtain ⟨u0, u1, u2, u3, u4, u5, u6, u7, u8, u9, u10, u11, u12, u13, u14, u15, u16, u17, u18, u19, u20, u21, u22, u23, u24, u25, u26, u27, u28, u29, u30, u31, u32, u33, rfl⟩ := len34 hus
        have e6 : u6 = .pointer (some ⟨gb, 0, none⟩) := hI.val 6 _ rfl (gen_after 6 (by kernel_rfl) hbp)
        subst e6
        have HI := Veil.mk hI
        clear hI
        rw [ha]
        simp only [puts, setAll, List.setIfInBounds_toArray, List.set_cons_zero, List.set_cons_succ]
        go_simp
        exact hK _ _ (chain_step HI.out hus hbs 7 _ (by show 7 < 34; decide) rfl hbp (val_of rfl rfl) (HI.out.ph.step 7 _ (by decide)) (by simp only [puts, setAll, List.set_cons_zero, List.set_cons_succ, List.setIfInBounds_toArray]))
      refine Steps.cons rfl (fun bb aa w' hbs hb0 hbp hI K hK => ?_) ?_
      · obtain ⟨us, hus, ha, hI⟩ := hI
        obtain ⟨u0, u1, u2, u3, u4, u5, u6, u7, u8, u9, u10, u11, u12, u13, u14, u15, u16, u17, u18, u19, u20, u21, u22, u23, u24, u25, u26, u27, u28, u29, u30, u31, u32, u33, rfl⟩ := len34 hus
        have e7 : u7 = .pointer (some ⟨gb, 0, none⟩) := hI.val 7 _ rfl (gen_after 7 (by kernel_rfl) hbp)
        subst e7
        have HI := Veil.mk hI
        clear hI
        rw [ha]
        simp only [puts, setAll, List.setIfInBounds_toArray, List.set_cons_zero, List.set_cons_succ]
        go_simp
        exact hK _ _ (chain_step HI.out hus hbs 8 _ (by show 8 < 34; decide) rfl hbp (val_of rfl rfl) (HI.out.ph.step 8 _ (by decide)) (by simp only [puts, setAll, List.set_cons_zero, List.set_cons_succ, List.setIfInBounds_toArray]))
      refine Steps.cons rfl (fun bb aa w' hbs hb0 hbp hI K hK => ?_) ?_
      · obtain ⟨us, hus, ha, hI⟩ := hI
        obtain ⟨u0, u1, u2, u3, u4, u5, u6, u7, u8, u9, u10, u11, u12, u13, u14, u15, u16, u17, u18, u19, u20, u21, u22, u23, u24, u25, u26, u27, u28, u29, u30, u31, u32, u33, rfl⟩ := len34 hus
        have e8 : u8 = .pointer (some ⟨gb, 0, none⟩) := hI.val 8 _ rfl (gen_after 8 (by kernel_rfl) hbp)
        subst e8
        have c0 : w'.cell? ⟨gb, 0, none⟩ = some (.pointer (some ⟨t, 0, none⟩)) := hI.ph.c0
        have HI := Veil.mk hI
        clear hI
        rw [ha]
        simp only [puts, setAll, List.setIfInBounds_toArray, List.set_cons_zero, List.set_cons_succ]
        go_simp
        exact hK _ _ (chain_step HI.out hus hbs 9 _ (by show 9 < 34; decide) rfl hbp (val_of rfl rfl) (HI.out.ph.step 9 _ (by decide)) (by simp only [puts, setAll, List.set_cons_zero, List.set_cons_succ, List.setIfInBounds_toArray]))
      refine Steps.cons rfl (fun bb aa w' hbs hb0 hbp hI K hK => ?_) ?_
      · obtain ⟨us, hus, ha, hI⟩ := hI
        obtain ⟨u0, u1, u2, u3, u4, u5, u6, u7, u8, u9, u10, u11, u12, u13, u14, u15, u16, u17, u18, u19, u20, u21, u22, u23, u24, u25, u26, u27, u28, u29, u30, u31, u32, u33, rfl⟩ := len34 hus
        have e9 : u9 = .pointer (some ⟨t, 0, none⟩) := hI.val 9 _ rfl (gen_after 9 (by kernel_rfl) hbp)
        subst e9
        have h11 := hI.before 11 10 rfl (by kernel_rfl) hb0
        have h12 := hI.before 12 11 rfl (by kernel_rfl) h11
        have HC := Veil.mk (hI.ph.call hb0 h11 h12 (by omega))
        have HI := Veil.mk hI
        clear hI
        clear h12
        clear h11
        rw [ha]
        simp only [puts, setAll, List.setIfInBounds_toArray, List.set_cons_zero, List.set_cons_succ]
        go_simp
        refine HC.out.mono ?_
        rintro e w2 ⟨v, rfl, hph⟩
        have HPH := Veil.mk hph
        clear hph
        go_simp
        exact hK _ _ (chain_step HI.out hus hbs 10 _ (by show 10 < 34; decide) rfl hbp (none_of rfl) (HPH.out) (by simp only [puts, setAll, List.set_cons_zero, List.set_cons_succ, List.setIfInBounds_toArray]))
      refine Steps.cons rfl (fun bb aa w' hbs hb0 hbp hI K hK => ?_) ?_
      · obtain ⟨us, hus, ha, hI⟩ := hI
        obtain ⟨u0, u1, u2, u3, u4, u5, u6, u7, u8, u9, u10, u11, u12, u13, u14, u15, u16, u17, u18, u19, u20, u21, u22, u23, u24, u25, u26, u27, u28, u29, u30, u31, u32, u33, rfl⟩ := len34 hus
        have h12 := hI.before 12 11 rfl (by kernel_rfl) hb0
        obtain ⟨cq, eq1⟩ := hI.ph.u10 (gen_after 10 (by kernel_rfl) hbp)
        have e10 : u10 = .pointer (some ⟨cq, 0, none⟩) := eq1
        clear eq1
        subst e10
        have HP := Veil.mk (hI.ph.row2 hb0 h12)
        have HI := Veil.mk hI
        clear hI
        clear h12
        rw [ha]
        simp only [puts, setAll, List.setIfInBounds_toArray, List.set_cons_zero, List.set_cons_succ]
        go_simp
        exact hK _ _ (chain_step HI.out hus hbs 11 _ (by show 11 < 34; decide) rfl hbp (none_of rfl) (HP.out) (by simp only [puts, setAll, List.set_cons_zero, List.set_cons_succ, List.setIfInBounds_toArray]))
      refine Steps.cons rfl (fun bb aa w' hbs hb0 hbp hI K hK => ?_) ?_
      · obtain ⟨us, hus, ha, hI⟩ := hI
        obtain ⟨u0, u1, u2, u3, u4, u5, u6, u7, u8, u9, u10, u11, u12, u13, u14, u15, u16, u17, u18, u19, u20, u21, u22, u23, u24, u25, u26, u27, u28, u29, u30, u31, u32, u33, rfl⟩ := len34 hus
        have e5 : u5 = .slice ca cs.length cc := hI.val 5 _ rfl (gen_after 5 (by kernel_rfl) hbp)
        subst e5
        have h30 := hI.before 30 12 rfl (by kernel_rfl) hb0
        have hdq := hI.done 11 _ rfl (gen_after 11 (by kernel_rfl) hbp) ⟨10, .data⟩ (by simp) rfl
        have hap := hI.ph.app2 hdq (gen_after 11 (by kernel_rfl) hbp) hb0 h30
        have HI := Veil.mk hI
        clear hI
        clear h30
        clear hdq
        obtain ⟨c0, pb, eq1, eq2, hown0, hcell, hB0, hnext⟩ := hap
        have e10 : u10 = .pointer (some ⟨c0, 0, none⟩) := eq1
        have e11 : u11 = .slice (some ⟨pb, 0, none⟩) 1 1 := eq2
        clear eq1
        clear eq2
        subst e10
        subst e11
        have HX := Veil.mk hnext
        clear hnext
        have HW := Veil.mk hown0
        have HCE := Veil.mk hcell
        clear hown0 hcell
        rw [ha]
        simp only [puts, setAll, List.setIfInBounds_toArray, List.set_cons_zero, List.set_cons_succ]
        clear ha
        refine wp_append_lies _ (.tmp 147) (.tmp 153) 71 rfl B 88 iC (.pointer none) 1 8 Try.underlying71 hiC hiC0 hiC1 hiC2 rfl (by decide) (.slice ca cs.length cc) cs.length (lstC cs) (by simp [Act.eval]) HW.out ⟨pb, 0, none⟩ 1 1 [.pointer (some ⟨c0, 0, none⟩)] (by simp [Act.eval]) rfl (one_cell HCE.out) (by simp [Value.oneCell']) (by decide) (by unfold maxLen; omega) (by omega) hB0 _ rfl ?_; intro r cap' w3 hown' hgrow3 hblk hg3
        exact hK _ _ (chain_step HI.out hus hbs 12 _ (by show 12 < 34; decide) rfl hbp (none_of rfl) (HX.out w3 r cap' hown' hgrow3 hblk) (by simp only [Act.put, puts, setAll, List.set_cons_zero, List.set_cons_succ, List.setIfInBounds_toArray]))
      refine Steps.cons rfl (fun bb aa w' hbs hb0 hbp hI K hK => ?_) ?_
      · obtain ⟨us, hus, ha, hI⟩ := hI
        obtain ⟨u0, u1, u2, u3, u4, u5, u6, u7, u8, u9, u10, u11, u12, u13, u14, u15, u16, u17, u18, u19, u20, u21, u22, u23, u24, u25, u26, u27, u28, u29, u30, u31, u32, u33, rfl⟩ := len34 hus
        have HI := Veil.mk hI
        clear hI
        rw [ha]
        simp only [puts, setAll, List.setIfInBounds_toArray, List.set_cons_zero, List.set_cons_succ]
        go_simp
        exact hK _ _ (chain_step HI.out hus hbs 13 _ (by show 13 < 34; decide) rfl hbp (val_of rfl rfl) (HI.out.ph.step 13 _ (by decide)) (by simp only [puts, setAll, List.set_cons_zero, List.set_cons_succ, List.setIfInBounds_toArray]))
      refine Steps.cons rfl (fun bb aa w' hbs hb0 hbp hI K hK => ?_) ?_
      · obtain ⟨us, hus, ha, hI⟩ := hI
        obtain ⟨u0, u1, u2, u3, u4, u5, u6, u7, u8, u9, u10, u11, u12, u13, u14, u15, u16, u17, u18, u19, u20, u21, u22, u23, u24, u25, u26, u27, u28, u29, u30, u31, u32, u33, rfl⟩ := len34 hus
        have e13 : u13 = .pointer (some ⟨gb, 0, none⟩) := hI.val 13 _ rfl (gen_after 13 (by kernel_rfl) hbp)
        subst e13
        have HI := Veil.mk hI
        clear hI
        rw [ha]
        simp only [puts, setAll, List.setIfInBounds_toArray, List.set_cons_zero, List.set_cons_succ]
        go_simp
        exact hK _ _ (chain_step HI.out hus hbs 14 _ (by show 14 < 34; decide) rfl hbp (val_of rfl rfl) (HI.out.ph.step 14 _ (by decide)) (by simp only [puts, setAll, List.set_cons_zero, List.set_cons_succ, List.setIfInBounds_toArray]))
      refine Steps.cons rfl (fun bb aa w' hbs hb0 hbp hI K hK => ?_) ?_
      · obtain ⟨us, hus, ha, hI⟩ := hI
        obtain ⟨u0, u1, u2, u3, u4, u5, u6, u7, u8, u9, u10, u11, u12, u13, u14, u15, u16, u17, u18, u19, u20, u21, u22, u23, u24, u25, u26, u27, u28, u29, u30, u31, u32, u33, rfl⟩ := len34 hus
        have e14 : u14 = .pointer (some ⟨gb, 0, none⟩) := hI.val 14 _ rfl (gen_after 14 (by kernel_rfl) hbp)
        subst e14
        have HI := Veil.mk hI
        clear hI
        rw [ha]
        simp only [puts, setAll, List.setIfInBounds_toArray, List.set_cons_zero, List.set_cons_succ]
        go_simp
        exact hK _ _ (chain_step HI.out hus hbs 15 _ (by show 15 < 34; decide) rfl hbp (val_of rfl rfl) (HI.out.ph.step 15 _ (by decide)) (by simp only [puts, setAll, List.set_cons_zero, List.set_cons_succ, List.setIfInBounds_toArray]))
      refine Steps.cons rfl (fun bb aa w' hbs hb0 hbp hI K hK => ?_) ?_
      · obtain ⟨us, hus, ha, hI⟩ := hI
        obtain ⟨u0, u1, u2, u3, u4, u5, u6, u7, u8, u9, u10, u11, u12, u13, u14, u15, u16, u17, u18, u19, u20, u21, u22, u23, u24, u25, u26, u27, u28, u29, u30, u31, u32, u33, rfl⟩ := len34 hus
        have e15 : u15 = .pointer (some ⟨gb, 3, none⟩) := hI.val 15 _ rfl (gen_after 15 (by kernel_rfl) hbp)
        subst e15
        have h27 := hI.before 27 16 rfl (by kernel_rfl) hb0
        have h33 := hI.before 33 27 rfl (by kernel_rfl) h27
        have c0 : w'.cell? ⟨gb, 3, none⟩ = some (.slice da cs.length dc) := hI.ph.c3 h33
        have HI := Veil.mk hI
        clear hI
        clear h33
        clear h27
        rw [ha]
        simp only [puts, setAll, List.setIfInBounds_toArray, List.set_cons_zero, List.set_cons_succ]
        go_simp
        exact hK _ _ (chain_step HI.out hus hbs 16 _ (by show 16 < 34; decide) rfl hbp (val_of rfl rfl) (HI.out.ph.step 16 _ (by decide)) (by simp only [puts, setAll, List.set_cons_zero, List.set_cons_succ, List.setIfInBounds_toArray]))
      refine Steps.cons rfl (fun bb aa w' hbs hb0 hbp hI K hK => ?_) ?_
      · obtain ⟨us, hus, ha, hI⟩ := hI
        obtain ⟨u0, u1, u2, u3, u4, u5, u6, u7, u8, u9, u10, u11, u12, u13, u14, u15, u16, u17, u18, u19, u20, u21, u22, u23, u24, u25, u26, u27, u28, u29, u30, u31, u32, u33, rfl⟩ := len34 hus
        have HI := Veil.mk hI
        clear hI
        rw [ha]
        simp only [puts, setAll, List.setIfInBounds_toArray, List.set_cons_zero, List.set_cons_succ]
        go_simp
        exact hK _ _ (chain_step HI.out hus hbs 17 _ (by show 17 < 34; decide) rfl hbp (val_of rfl rfl) (HI.out.ph.step 17 _ (by decide)) (by simp only [puts, setAll, List.set_cons_zero, List.set_cons_succ, List.setIfInBounds_toArray]))
      refine Steps.cons rfl (fun bb aa w' hbs hb0 hbp hI K hK => ?_) ?_
      · obtain ⟨us, hus, ha, hI⟩ := hI
        obtain ⟨u0, u1, u2, u3, u4, u5, u6, u7, u8, u9, u10, u11, u12, u13, u14, u15, u16, u17, u18, u19, u20, u21, u22, u23, u24, u25, u26, u27, u28, u29, u30, u31, u32, u33, rfl⟩ := len34 hus
        have e17 : u17 = .pointer (some ⟨gb, 0, none⟩) := hI.val 17 _ rfl (gen_after 17 (by kernel_rfl) hbp)
        subst e17
        have HI := Veil.mk hI
        clear hI
        rw [ha]
        simp only [puts, setAll, List.setIfInBounds_toArray, List.set_cons_zero, List.set_cons_succ]
        go_simp
        exact hK _ _ (chain_step HI.out hus hbs 18 _ (by show 18 < 34; decide) rfl hbp (val_of rfl rfl) (HI.out.ph.step 18 _ (by decide)) (by simp only [puts, setAll, List.set_cons_zero, List.set_cons_succ, List.setIfInBounds_toArray]))
      refine Steps.cons rfl (fun bb aa w' hbs hb0 hbp hI K hK => ?_) ?_
      · obtain ⟨us, hus, ha, hI⟩ := hI
        obtain ⟨u0, u1, u2, u3, u4, u5, u6, u7, u8, u9, u10, u11, u12, u13, u14, u15, u16, u17, u18, u19, u20, u21, u22, u23, u24, u25, u26, u27, u28, u29, u30, u31, u32, u33, rfl⟩ := len34 hus
        have e18 : u18 = .pointer (some ⟨gb, 0, none⟩) := hI.val 18 _ rfl (gen_after 18 (by kernel_rfl) hbp)
        subst e18
        have HI := Veil.mk hI
        clear hI
        rw [ha]
        simp only [puts, setAll, List.setIfInBounds_toArray, List.set_cons_zero, List.set_cons_succ]
        go_simp
        exact hK _ _ (chain_step HI.out hus hbs 19 _ (by show 19 < 34; decide) rfl hbp (val_of rfl rfl) (HI.out.ph.step 19 _ (by decide)) (by simp only [puts, setAll, List.set_cons_zero, List.set_cons_succ, List.setIfInBounds_toArray]))
      refine Steps.cons rfl (fun bb aa w' hbs hb0 hbp hI K hK => ?_) ?_
      · obtain ⟨us, hus, ha, hI⟩ := hI
        obtain ⟨u0, u1, u2, u3, u4, u5, u6, u7, u8, u9, u10, u11, u12, u13, u14, u15, u16, u17, u18, u19, u20, u21, u22, u23, u24, u25, u26, u27, u28, u29, u30, u31, u32, u33, rfl⟩ := len34 hus
        have e19 : u19 = .pointer (some ⟨gb, 1, none⟩) := hI.val 19 _ rfl (gen_after 19 (by kernel_rfl) hbp)
        subst e19
        have c0 : w'.cell? ⟨gb, 1, none⟩ = some (.pointer (some ⟨gm, 0, none⟩)) := hI.ph.c1
        have HI := Veil.mk hI
        clear hI
        rw [ha]
        simp only [puts, setAll, List.setIfInBounds_toArray, List.set_cons_zero, List.set_cons_succ]
        go_simp
        exact hK _ _ (chain_step HI.out hus hbs 20 _ (by show 20 < 34; decide) rfl hbp (val_of rfl rfl) (HI.out.ph.step 20 _ (by decide)) (by simp only [puts, setAll, List.set_cons_zero, List.set_cons_succ, List.setIfInBounds_toArray]))
      refine Steps.cons rfl (fun bb aa w' hbs hb0 hbp hI K hK => ?_) ?_
      · obtain ⟨us, hus, ha, hI⟩ := hI
        obtain ⟨u0, u1, u2, u3, u4, u5, u6, u7, u8, u9, u10, u11, u12, u13, u14, u15, u16, u17, u18, u19, u20, u21, u22, u23, u24, u25, u26, u27, u28, u29, u30, u31, u32, u33, rfl⟩ := len34 hus
        have e20 : u20 = .pointer (some ⟨gm, 0, none⟩) := hI.val 20 _ rfl (gen_after 20 (by kernel_rfl) hbp)
        subst e20
        have HI := Veil.mk hI
        clear hI
        rw [ha]
        simp only [puts, setAll, List.setIfInBounds_toArray, List.set_cons_zero, List.set_cons_succ]
        go_simp
        exact hK _ _ (chain_step HI.out hus hbs 21 _ (by show 21 < 34; decide) rfl hbp (val_of rfl rfl) (HI.out.ph.step 21 _ (by decide)) (by simp only [puts, setAll, List.set_cons_zero, List.set_cons_succ, List.setIfInBounds_toArray]))
      refine Steps.cons rfl (fun bb aa w' hbs hb0 hbp hI K hK => ?_) ?_
      · obtain ⟨us, hus, ha, hI⟩ := hI
        obtain ⟨u0, u1, u2, u3, u4, u5, u6, u7, u8, u9, u10, u11, u12, u13, u14, u15, u16, u17, u18, u19, u20, u21, u22, u23, u24, u25, u26, u27, u28, u29, u30, u31, u32, u33, rfl⟩ := len34 hus
        have e21 : u21 = .pointer (some ⟨gm, 0, none⟩) := hI.val 21 _ rfl (gen_after 21 (by kernel_rfl) hbp)
        subst e21
        have HI := Veil.mk hI
        clear hI
        rw [ha]
        simp only [puts, setAll, List.setIfInBounds_toArray, List.set_cons_zero, List.set_cons_succ]
        go_simp
        exact hK _ _ (chain_step HI.out hus hbs 22 _ (by show 22 < 34; decide) rfl hbp (val_of rfl rfl) (HI.out.ph.step 22 _ (by decide)) (by simp only [puts, setAll, List.set_cons_zero, List.set_cons_succ, List.setIfInBounds_toArray]))
      refine Steps.cons rfl (fun bb aa w' hbs hb0 hbp hI K hK => ?_) ?_
      · obtain ⟨us, hus, ha, hI⟩ := hI
        obtain ⟨u0, u1, u2, u3, u4, u5, u6, u7, u8, u9, u10, u11, u12, u13, u14, u15, u16, u17, u18, u19, u20, u21, u22, u23, u24, u25, u26, u27, u28, u29, u30, u31, u32, u33, rfl⟩ := len34 hus
        have e22 : u22 = .pointer (some ⟨gm, 1, none⟩) := hI.val 22 _ rfl (gen_after 22 (by kernel_rfl) hbp)
        subst e22
        have c0 : w'.cell? ⟨gm, 1, none⟩ = some (.int .i64 cl) := hI.ph.cm
        have HI := Veil.mk hI
        clear hI
        rw [ha]
        simp only [puts, setAll, List.setIfInBounds_toArray, List.set_cons_zero, List.set_cons_succ]
        go_simp
        exact hK _ _ (chain_step HI.out hus hbs 23 _ (by show 23 < 34; decide) rfl hbp (val_of rfl rfl) (HI.out.ph.step 23 _ (by decide)) (by simp only [puts, setAll, List.set_cons_zero, List.set_cons_succ, List.setIfInBounds_toArray]))
      refine Steps.cons rfl (fun bb aa w' hbs hb0 hbp hI K hK => ?_) ?_
      · obtain ⟨us, hus, ha, hI⟩ := hI
        obtain ⟨u0, u1, u2, u3, u4, u5, u6, u7, u8, u9, u10, u11, u12, u13, u14, u15, u16, u17, u18, u19, u20, u21, u22, u23, u24, u25, u26, u27, u28, u29, u30, u31, u32, u33, rfl⟩ := len34 hus
        have e23 : u23 = .int .i64 cl := hI.val 23 _ rfl (gen_after 23 (by kernel_rfl) hbp)
        subst e23
        have HI := Veil.mk hI
        clear hI
        rw [ha]
        simp only [puts, setAll, List.setIfInBounds_toArray, List.set_cons_zero, List.set_cons_succ]
        go_simp
        exact hK _ _ (chain_step HI.out hus hbs 24 _ (by show 24 < 34; decide) rfl hbp (val_of rfl rfl) (HI.out.ph.step 24 _ (by decide)) (by simp only [puts, setAll, List.set_cons_zero, List.set_cons_succ, List.setIfInBounds_toArray]))
      refine Steps.cons rfl (fun bb aa w' hbs hb0 hbp hI K hK => ?_) ?_
      · obtain ⟨us, hus, ha, hI⟩ := hI
        obtain ⟨u0, u1, u2, u3, u4, u5, u6, u7, u8, u9, u10, u11, u12, u13, u14, u15, u16, u17, u18, u19, u20, u21, u22, u23, u24, u25, u26, u27, u28, u29, u30, u31, u32, u33, rfl⟩ := len34 hus
        have e24 : u24 = .agg #[.int .i64 0, .int .i64 cl, .bool false] := hI.val 24 _ rfl (gen_after 24 (by kernel_rfl) hbp)
        subst e24
        have h26 := hI.before 26 25 rfl (by kernel_rfl) hb0
        have h27 := hI.before 27 26 rfl (by kernel_rfl) h26
        have HP := Veil.mk (hI.ph.box5 hb0 h26 h27)
        have HI := Veil.mk hI
        clear hI
        clear h27
        clear h26
        rw [ha]
        simp only [puts, setAll, List.setIfInBounds_toArray, List.set_cons_zero, List.set_cons_succ]
        go_simp
        exact hK _ _ (chain_step HI.out hus hbs 25 _ (by show 25 < 34; decide) rfl hbp (none_of rfl) (HP.out) (by simp only [puts, setAll, List.set_cons_zero, List.set_cons_succ, List.setIfInBounds_toArray]))
      refine Steps.cons rfl (fun bb aa w' hbs hb0 hbp hI K hK => ?_) ?_
      · obtain ⟨us, hus, ha, hI⟩ := hI
        obtain ⟨u0, u1, u2, u3, u4, u5, u6, u7, u8, u9, u10, u11, u12, u13, u14, u15, u16, u17, u18, u19, u20, u21, u22, u23, u24, u25, u26, u27, u28, u29, u30, u31, u32, u33, rfl⟩ := len34 hus
        have h27 := hI.before 27 26 rfl (by kernel_rfl) hb0
        obtain ⟨cq, eq1⟩ := hI.ph.u25 (gen_after 25 (by kernel_rfl) hbp)
        have e25 : u25 = .pointer (some ⟨cq, 0, none⟩) := eq1
        clear eq1
        subst e25
        have HP := Veil.mk (hI.ph.row3 hb0 h27)
        have HI := Veil.mk hI
        clear hI
        clear h27
        rw [ha]
        simp only [puts, setAll, List.setIfInBounds_toArray, List.set_cons_zero, List.set_cons_succ]
        go_simp
        exact hK _ _ (chain_step HI.out hus hbs 26 _ (by show 26 < 34; decide) rfl hbp (none_of rfl) (HP.out) (by simp only [puts, setAll, List.set_cons_zero, List.set_cons_succ, List.setIfInBounds_toArray]))
      refine Steps.cons rfl (fun bb aa w' hbs hb0 hbp hI K hK => ?_) ?_
      · obtain ⟨us, hus, ha, hI⟩ := hI
        obtain ⟨u0, u1, u2, u3, u4, u5, u6, u7, u8, u9, u10, u11, u12, u13, u14, u15, u16, u17, u18, u19, u20, u21, u22, u23, u24, u25, u26, u27, u28, u29, u30, u31, u32, u33, rfl⟩ := len34 hus
        have e16 : u16 = .slice da cs.length dc := hI.val 16 _ rfl (gen_after 16 (by kernel_rfl) hbp)
        subst e16
        have h33 := hI.before 33 27 rfl (by kernel_rfl) hb0
        have hdq := hI.done 26 _ rfl (gen_after 26 (by kernel_rfl) hbp) ⟨25, .data⟩ (by simp) rfl
        have hap := hI.ph.app3 hdq (gen_after 26 (by kernel_rfl) hbp) hb0 h33
        have HI := Veil.mk hI
        clear hI
        clear h33
        clear hdq
        obtain ⟨qb, rb, eq1, eq2, hown0, hcell, hB0, hnext⟩ := hap
        have e25 : u25 = .pointer (some ⟨qb, 0, none⟩) := eq1
        have e26 : u26 = .slice (some ⟨rb, 0, none⟩) 1 1 := eq2
        clear eq1
        clear eq2
        subst e25
        subst e26
        have HX := Veil.mk hnext
        clear hnext
        have HW := Veil.mk hown0
        have HCE := Veil.mk hcell
        clear hown0 hcell
        rw [ha]
        simp only [puts, setAll, List.setIfInBounds_toArray, List.set_cons_zero, List.set_cons_succ]
        clear ha
        refine wp_append_lies _ (.tmp 158) (.tmp 168) 72 rfl B 123 iR (.pointer none) 1 8 Try.underlying72 hiR hiR0 hiR1 hiR2 rfl (by decide) (.slice da cs.length dc) cs.length (lstD cs) (by simp [Act.eval]) HW.out ⟨rb, 0, none⟩ 1 1 [.pointer (some ⟨qb, 0, none⟩)] (by simp [Act.eval]) rfl (one_cell HCE.out) (by simp [Value.oneCell']) (by decide) (by unfold maxLen; omega) (by omega) hB0 _ rfl ?_; intro r cap' w3 hown' hgrow3 hblk hg3
        exact hK _ _ (chain_step HI.out hus hbs 27 _ (by show 27 < 34; decide) rfl hbp (none_of rfl) (HX.out w3 r cap' hown' hgrow3) (by simp only [Act.put, puts, setAll, List.set_cons_zero, List.set_cons_succ, List.setIfInBounds_toArray]))
      refine Steps.cons rfl (fun bb aa w' hbs hb0 hbp hI K hK => ?_) ?_
      · obtain ⟨us, hus, ha, hI⟩ := hI
        obtain ⟨u0, u1, u2, u3, u4, u5, u6, u7, u8, u9, u10, u11, u12, u13, u14, u15, u16, u17, u18, u19, u20, u21, u22, u23, u24, u25, u26, u27, u28, u29, u30, u31, u32, u33, rfl⟩ := len34 hus
        have e0 : u0 = .pointer (some ⟨gb, 0, none⟩) := hI.val 0 _ rfl (gen_after 0 (by kernel_rfl) hbp)
        subst e0
        have HI := Veil.mk hI
        clear hI
        rw [ha]
        simp only [puts, setAll, List.setIfInBounds_toArray, List.set_cons_zero, List.set_cons_succ]
        go_simp
        exact hK _ _ (chain_step HI.out hus hbs 28 _ (by show 28 < 34; decide) rfl hbp (val_of rfl rfl) (HI.out.ph.step 28 _ (by decide)) (by simp only [puts, setAll, List.set_cons_zero, List.set_cons_succ, List.setIfInBounds_toArray]))
      refine Steps.cons rfl (fun bb aa w' hbs hb0 hbp hI K hK => ?_) ?_
      · obtain ⟨us, hus, ha, hI⟩ := hI
        obtain ⟨u0, u1, u2, u3, u4, u5, u6, u7, u8, u9, u10, u11, u12, u13, u14, u15, u16, u17, u18, u19, u20, u21, u22, u23, u24, u25, u26, u27, u28, u29, u30, u31, u32, u33, rfl⟩ := len34 hus
        have e28 : u28 = .pointer (some ⟨gb, 0, none⟩) := hI.val 28 _ rfl (gen_after 28 (by kernel_rfl) hbp)
        subst e28
        have HI := Veil.mk hI
        clear hI
        rw [ha]
        simp only [puts, setAll, List.setIfInBounds_toArray, List.set_cons_zero, List.set_cons_succ]
        go_simp
        exact hK _ _ (chain_step HI.out hus hbs 29 _ (by show 29 < 34; decide) rfl hbp (val_of rfl rfl) (HI.out.ph.step 29 _ (by decide)) (by simp only [puts, setAll, List.set_cons_zero, List.set_cons_succ, List.setIfInBounds_toArray]))
      refine Steps.cons rfl (fun bb aa w' hbs hb0 hbp hI K hK => ?_) ?_
      · obtain ⟨us, hus, ha, hI⟩ := hI
        obtain ⟨u0, u1, u2, u3, u4, u5, u6, u7, u8, u9, u10, u11, u12, u13, u14, u15, u16, u17, u18, u19, u20, u21, u22, u23, u24, u25, u26, u27, u28, u29, u30, u31, u32, u33, rfl⟩ := len34 hus
        have e29 : u29 = .pointer (some ⟨gb, 2, none⟩) := hI.val 29 _ rfl (gen_after 29 (by kernel_rfl) hbp)
        subst e29
        have hst := hI.ph.sto2 (gen_after 12 (by kernel_rfl) hbp)
        have c0 := hI.ph.c2 hb0
        have HI := Veil.mk hI
        clear hI
        obtain ⟨⟨r, cap', eq1⟩, hfz, hnext⟩ := hst
        have e12 : u12 = .slice (some ⟨r, 0, none⟩) (cs.length + 1) cap' := eq1
        clear eq1
        subst e12
        have HX := Veil.mk hnext
        clear hnext
        rw [ha]
        simp only [puts, setAll, List.setIfInBounds_toArray, List.set_cons_zero, List.set_cons_succ]
        go_simp
        exact hK _ _ (chain_step HI.out hus hbs 30 undef (by show 30 < 34; decide) rfl hbp (none_of rfl) (HX.out undef) (by simp only [puts, setAll, List.set_cons_zero, List.set_cons_succ, List.setIfInBounds_toArray]))
      refine Steps.cons rfl (fun bb aa w' hbs hb0 hbp hI K hK => ?_) ?_
      · obtain ⟨us, hus, ha, hI⟩ := hI
        obtain ⟨u0, u1, u2, u3, u4, u5, u6, u7, u8, u9, u10, u11, u12, u13, u14, u15, u16, u17, u18, u19, u20, u21, u22, u23, u24, u25, u26, u27, u28, u29, u30, u31, u32, u33, rfl⟩ := len34 hus
        have e1 : u1 = .pointer (some ⟨gb, 0, none⟩) := hI.val 1 _ rfl (gen_after 1 (by kernel_rfl) hbp)
        subst e1
        have HI := Veil.mk hI
        clear hI
        rw [ha]
        simp only [puts, setAll, List.setIfInBounds_toArray, List.set_cons_zero, List.set_cons_succ]
        go_simp
        exact hK _ _ (chain_step HI.out hus hbs 31 _ (by show 31 < 34; decide) rfl hbp (val_of rfl rfl) (HI.out.ph.step 31 _ (by decide)) (by simp only [puts, setAll, List.set_cons_zero, List.set_cons_succ, List.setIfInBounds_toArray]))
      refine Steps.cons rfl (fun bb aa w' hbs hb0 hbp hI K hK => ?_) ?_
      · obtain ⟨us, hus, ha, hI⟩ := hI
        obtain ⟨u0, u1, u2, u3, u4, u5, u6, u7, u8, u9, u10, u11, u12, u13, u14, u15, u16, u17, u18, u19, u20, u21, u22, u23, u24, u25, u26, u27, u28, u29, u30, u31, u32, u33, rfl⟩ := len34 hus
        have e31 : u31 = .pointer (some ⟨gb, 0, none⟩) := hI.val 31 _ rfl (gen_after 31 (by kernel_rfl) hbp)
        subst e31
        have HI := Veil.mk hI
        clear hI
        rw [ha]
        simp only [puts, setAll, List.setIfInBounds_toArray, List.set_cons_zero, List.set_cons_succ]
        go_simp
        exact hK _ _ (chain_step HI.out hus hbs 32 _ (by show 32 < 34; decide) rfl hbp (val_of rfl rfl) (HI.out.ph.step 32 _ (by decide)) (by simp only [puts, setAll, List.set_cons_zero, List.set_cons_succ, List.setIfInBounds_toArray]))
      refine Steps.cons rfl (fun bb aa w' hbs hb0 hbp hI K hK => ?_) ?_
      · obtain ⟨us, hus, ha, hI⟩ := hI
        obtain ⟨u0, u1, u2, u3, u4, u5, u6, u7, u8, u9, u10, u11, u12, u13, u14, u15, u16, u17, u18, u19, u20, u21, u22, u23, u24, u25, u26, u27, u28, u29, u30, u31, u32, u33, rfl⟩ := len34 hus
        have e32 : u32 = .pointer (some ⟨gb, 3, none⟩) := hI.val 32 _ rfl (gen_after 32 (by kernel_rfl) hbp)
        subst e32
        have hst := hI.ph.sto3 (gen_after 27 (by kernel_rfl) hbp)
        have c0 := hI.ph.c3 hb0
        have HI := Veil.mk hI
        clear hI
        obtain ⟨⟨r, cap', eq1⟩, hfz, hnext⟩ := hst
        have e27 : u27 = .slice (some ⟨r, 0, none⟩) (cs.length + 1) cap' := eq1
        clear eq1
        subst e27
        have HX := Veil.mk hnext
        clear hnext
        rw [ha]
        simp only [puts, setAll, List.setIfInBounds_toArray, List.set_cons_zero, List.set_cons_succ]
        go_simp
        exact hK _ _ (chain_step HI.out hus hbs 33 undef (by show 33 < 34; decide) rfl hbp (none_of rfl) (HX.out undef) (by simp only [puts, setAll, List.set_cons_zero, List.set_cons_succ, List.setIfInBounds_toArray]))
      exact Steps.nil
    · intro us w5 hus d hd hJ
      obtain ⟨u0, u1, u2, u3, u4, u5, u6, u7, u8, u9, u10, u11, u12, u13, u14, u15, u16, u17, u18, u19, u20, u21, u22, u23, u24, u25, u26, u27, u28, u29, u30, u31, u32, u33, rfl⟩ := len34 hus
      have hend := hJ.ph.done hd HS.out hdn
      clear hJ hd
      simp only [puts, setAll, List.setIfInBounds_toArray, List.set_cons_zero, List.set_cons_succ]
      obtain ⟨F', O', vc', vd', cs', hB5, hdn5, hl5, hb5⟩ := hend
      have HSM := Veil.mk (same_any _ B gb t gm _ _ l cl vl vc' vd' cs' (by omega) (by omega) hB5)
      have HB5 := Veil.mk (And.intro hB5 (And.intro hdn5 (And.intro hl5 hb5)))
      clear hB5 hdn5 hl5 hb5
      go_wp2_with (first | (go_at_call 66; ((with_reducible refine HSM.out.mono ?_); rintro e w9 ⟨rfl, hb9⟩)))
      go_ret
      obtain ⟨hB5, hdn5, hl5, hb5⟩ := HB5.out
      exact ⟨rfl, F', O', l, cl, vl, vc', vd', cs', hB5.on hb9, hdn5, .inr (by omega), by omega, Int.le_refl _, by omega, (HBc.out.mono hBs).trans (hb5.trans (hb9.mono hB5.tf.le))⟩
  · have h40' : ¬ (cs.length : Int) < 40 := by omega
    have HSM := Veil.mk (same_any wc B gb t gm F O l cl vl _ _ cs (by omega) (by omega) HS.out)
    go_wp2_with (first | (go_at_call 66; ((with_reducible refine HSM.out.mono ?_); rintro e w9 ⟨rfl, hb9⟩)))
    go_ret
    exact ⟨rfl, F, O, l, cl, vl, _, _, cs, HS.out.on hb9, hdn, .inl (Nat.le_refl _), by omega, Int.le_refl _, by omega, (HBc.out.mono hBs).trans (hb9.mono HS.out.tf.le)⟩
end Go.Proofs.Ythlhchaapdhbfaa
