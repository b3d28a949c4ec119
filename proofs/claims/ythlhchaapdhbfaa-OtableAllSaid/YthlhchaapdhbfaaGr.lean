/- The law's pair: play at Close. -/
import Derived.Test.YthlhchaapdhbfaaGq
namespace Go.Proofs.Ythlhchaapdhbfaa
open Go Go.RowKit

/-- What play leaves. -/
def PlayR (B gb t gm : Nat) (l : List Re) (cl : Int) (cs : List Cu) (w : World) (e : Ending) (w' : World) : Prop := e = .returned (.bool true) ∧ ∃ F' O' l' cl' vl' vc' vd' cs', BS w' B gb t gm F' O' l' cl' vl' vc' vd' cs' ∧ Dn cs' ∧ (cs'.length ≤ cs.length ∨ cs'.length ≤ 40) ∧ l'.length ≤ l.length + 1 ∧ cl ≤ cl' ∧ cl' ≤ cl + 1 ∧ Below B w w'
/-- The index that the law draws out of n. -/
theorem idx_facts (n : Int) (L : Nat) (hL : L ≠ 0) : 0 < n.tmod (L : Int) + (L : Int) ∧ n.tmod (L : Int) < (L : Int) ∧ ∃ i : Nat, i < L ∧ (n.tmod (L : Int) + (L : Int)).tmod (L : Int) = (i : Int) := by
  have hp : (0 : Int) < (L : Int) := by omega
  have h1 : n.tmod (L : Int) < (L : Int) := Int.tmod_lt_of_pos n hp
  have h2 : 0 < n.tmod (L : Int) + (L : Int) := by
    have := Int.tmod_lt_of_pos (-n) hp
    rw [Int.neg_tmod] at this
    omega
  refine ⟨h2, h1, ((n.tmod (L : Int) + (L : Int)).tmod (L : Int)).toNat, ?_, ?_⟩
  · have h3 := Int.tmod_lt_of_pos (n.tmod (L : Int) + (L : Int)) hp
    have h4 : 0 ≤ (n.tmod (L : Int) + (L : Int)).tmod (L : Int) := Int.tmod_nonneg _ (by omega)
    omega
  · have h4 : 0 ≤ (n.tmod (L : Int) + (L : Int)).tmod (L : Int) := Int.tmod_nonneg _ (by omega)
    omega
/-- What Close leaves, and the reference's flag behind it. -/
def CloseP (w1 : World) (B gb t gm : Nat) (l : List Re) (cl : Int) (vl vc : Value) (gd n dc i : Nat) (cs : List Cu) (x : Cu) (e : Ending) (w2 : World) : Prop :=
  e = .returned (.tuple #[]) ∧ w2.cell? ⟨gb, 3, none⟩ = some (.slice (some ⟨gd, 0, none⟩) n dc) ∧ w2.cell? ⟨gd, i, none⟩ = some (.pointer (some ⟨x.d, 0, none⟩)) ∧ w2.cell? ⟨x.d, 2, none⟩ = some (.bool x.shut) ∧ w2.frozen? ⟨x.d, 2, none⟩ = false ∧
    ∃ F' O' cs', BS (w2.setCell ⟨x.d, 2, none⟩ (.bool true)) B gb t gm F' O' l cl vl vc (.slice (some ⟨gd, 0, none⟩) n dc) cs' ∧ Dn cs' ∧ cs'.length = cs.length ∧ Below B w1 (w2.setCell ⟨x.d, 2, none⟩ (.bool true))
theorem reads_of {w1 w2 : World} {B gb t gm : Nat} {F F2 : Nat → Prop} {O : Ob} {l : List Re} {cl : Int} {vl vc : Value} {gd n dc i : Nat} {cs : List Cu} {x : Cu} (h : BS w1 B gb t gm F O l cl vl vc (.slice (some ⟨gd, 0, none⟩) n dc) cs) (hs : Fs F F2 w1 w2) (hx : cs[i]? = some x) :
    w2.cell? ⟨gb, 3, none⟩ = some (.slice (some ⟨gd, 0, none⟩) n dc) ∧ w2.cell? ⟨gd, i, none⟩ = some (.pointer (some ⟨x.d, 0, none⟩)) ∧ Box w2 x.d 125 (refC x) := by
  obtain ⟨rt2, bx2⟩ := h.mid hs
  have cp2 := h.cp.fs h.tf hs
  refine ⟨bx2.at_ 3, ?_, (cp2.bd x (List.mem_of_getElem? hx)).2⟩
  have h := cp2.rd.cells (g := gd) rfl i (.pointer (some ⟨x.d, 0, none⟩)) (by rw [List.getElem?_map, hx]; rfl)
  rwa [add_off] at h
theorem closec_any {w : World} {B gb t gm : Nat} {F : Nat → Prop} {O : Ob} {l : List Re} {cl : Int} {vl vc : Value} {gd n dc i : Nat} {cs : List Cu} {x : Cu} (h : BS w B gb t gm F O l cl vl vc (.slice (some ⟨gd, 0, none⟩) n dc) cs) (hdn : Dn cs) (hcs : cs.length < 900) (hx : cs[i]? = some x) :
    Calls Try.prog 47 #[.pointer (some ⟨x.c, 0, none⟩)] w (CloseP w B gb t gm l cl vl vc gd n dc i cs x) := by
  have hxm := List.mem_of_getElem? hx
  cases hsh : x.shut with
  | true =>
    obtain ⟨a, b, hb⟩ := h.cp.sh x hxm hsh
    refine (close_shut x.c a b w hb).mono ?_
    rintro e w2 ⟨rfl, rfl⟩
    obtain ⟨r1, r2, r3⟩ := reads_of h (Fs.refl F w2) hx
    have hset : cs.set i x = cs := by
      apply List.ext_getElem?
      intro j
      by_cases e : i = j
      · subst e
        rw [List.getElem?_set_self (List.getElem?_eq_some_iff.1 hx).1, hx]
      · rw [List.getElem?_set_ne e]
    obtain ⟨q1, q2, q3⟩ := BS.step h hdn h.tf (Fs.refl F w2) (Below.refl _ _) (x' := x) hx rfl rfl (Touch.put (S := fun k => k = x.d) rfl 2 (.bool true)) (by have := r3.put 2 (.bool true); rw [show (refC x).setIfInBounds 2 (.bool true) = refC x from by show #[_, _, _] = #[_, _, _]; rw [hsh]] at this; exact this) (fun _ => ⟨a, b, hb⟩) h.live (by rw [hset]; exact h.curs) (h.ats x hxm) (h.clrs x hxm)
    exact ⟨rfl, r1, r2, r3.at_ 2, r3.free 2, _, _, _, q1, q2, by rw [List.length_set], q3⟩
  | false =>
    have hm : (x.c, restR l cl x) ∈ O.2 := h.curs.mem_iff.2 (List.mem_map.2 ⟨x, List.mem_filter.2 ⟨hxm, by rw [hsh]; rfl⟩, rfl⟩)
    refine (close_tf h.tf (by have := h.lens.2; omega) x.c (restR l cl x) hm).mono ?_
    rintro e w2 ⟨rfl, F', L, hT, hFs, hp, a, b, hb⟩
    obtain ⟨r1, r2, r3⟩ := reads_of h hFs hx
    obtain ⟨q1, q2, q3⟩ := BS.step h hdn hT hFs (Below.refl _ _) (x' := { x with shut := true }) hx rfl rfl (Touch.put (S := fun k => k = x.d) rfl 2 (.bool true)) (r3.put 2 (.bool true)) (fun _ => ⟨a, b, hb⟩) h.live (shut_perm hx hsh rfl rfl hp h.curs) (h.ats x hxm) (h.clrs x hxm)
    exact ⟨rfl, r1, r2, r3.at_ 2, r3.free 2, _, _, _, q1, q2, by rw [List.length_set], q3⟩
set_option maxHeartbeats 1000000 in
set_option maxRecDepth 100000 in
theorem play_close (B gb t gm : Nat) (F : Nat → Prop) (O : Ob) (l : List Re) (cl : Int) (vl vc vd : Value) (cs : List Cu) (hdn : Dn cs) (hl : l.length < 20000) (hcs : cs.length < 900) (_ : 0 ≤ cl) (_ : cl < 10000) (c : CallD) (hkind : (c.kind.tmod 7 + 7) % 7 = 6) (h7 : 0 < c.kind.tmod 7 + 7) (h8 : c.kind.tmod 7 < 7) (hlen : c.len ≤ 100) (hlt : ∀ u ∈ c.l, u < 65536) (w : World) (hnum : W.Nums .u16 w c.a c.len c.l) (h : BS w B gb t gm F O l cl vl vc vd cs) :
    Calls Try.prog 35 #[.pointer (some ⟨gb, 0, none⟩), callV c] w (PlayR B gb t gm l cl cs w) := by
  have hkt : (c.kind.tmod 7 + 7).tmod 7 = 6 := by rw [Int.tmod_eq_emod_of_nonneg (by omega)]; exact hkind
  obtain ⟨m, hm, hm2⟩ := mask 16 (by omega) c.val
  rw [show ((2 ^ 16 - 1 : Nat) : Int) = 65535 from rfl] at hm
  obtain ⟨q, hq, hq2⟩ := mask 4 (by omega) c.n
  rw [show ((2 ^ 4 - 1 : Nat) : Int) = 15 from rfl] at hq
  obtain ⟨W, hW⟩ : ∃ W, W = w.alloc (.cells (callC c) 79) := ⟨_, rfl⟩
  have hBW : Below w.heap.size w W := by rw [hW]; exact (Below.refl _ _).alloc (Nat.le_refl _) _
  obtain ⟨g3, hg3⟩ : ∃ n, w.heap.size = n := ⟨_, rfl⟩
  have b3 : Box W g3 79 (callC c) := by rw [hW, ← hg3]; exact Box.new w _ _
  have hS := h.on hBW
  have HW := Veil.mk (And.intro hW hg3)
  have HS0 := Veil.mk hS
  have HC3 := Veil.mk b3
  have HM := Veil.mk hm
  have HQ := Veil.mk hq
  have HKT := Veil.mk (And.intro hkt hkind)
  have HNW := Veil.mk (hnum.on hBW)
  have HV : Veil (∀ w', Below W.heap.size W w' → Calls Try.prog 44 #[seedV c.kk c.kn c.a c.len c.cap] w' (SeedPost w')) := ⟨fun w' hb => seed_val c.kk c.kn c.a c.len c.cap c.l hlen hlt w' (HNW.out.on hb)⟩
  have hBs : B ≤ w.heap.size := h.tf.le
  have HBW := Veil.mk hBW
  clear hW hg3 hS b3 hm hq hkt hkind hBW hnum hlt h
  go_enter Try.func35, Try.ntmps35
  go_upto_region 1 with (fail)
  rw [← HW.out.1, HW.out.2]
  clear HW
  go_cut [5, 6] (fun s5 s6 wx => PlayP W (m : Int) s5 s6 wx)
  case first =>
    refine wp_region_gen (playK g3 (seedV c.kk c.kn c.a c.len c.cap) c.val (m : Int)) playS (List.replicate 11 undef) (by kernel_rfl) rfl rfl (by simp only [puts, setAll, List.replicate, List.set_cons_zero, List.set_cons_succ, List.setIfInBounds_toArray]) ?_ (by kernel_rfl) ?_
    · refine Steps.cons rfl (fun bb aa w' hbs hb0 hbp hI K hK => ?_) ?_
      · obtain ⟨us, hus, rfl, hI⟩ := hI
        obtain ⟨u0, u1, u2, u3, u4, u5, u6, u7, u8, u9, u10, rfl⟩ := len11 hus
        have hch := hI.below
        skip
        have HI := Veil.mk hI
        clear hI
        simp only [puts, setAll, List.setIfInBounds_toArray, List.set_cons_zero, List.set_cons_succ]
        go_simp
        exact hK _ _ (gen_val HI.out hus hbs 0 _ _ (by show 0 < 11; decide) (playK_fit _ _ _ _) rfl hb0 rfl (Below.refl _ _) (by simp only [puts, setAll, List.set_cons_zero, List.set_cons_succ, List.setIfInBounds_toArray]))
      refine Steps.cons rfl (fun bb aa w' hbs hb0 hbp hI K hK => ?_) ?_
      · obtain ⟨us, hus, rfl, hI⟩ := hI
        obtain ⟨u0, u1, u2, u3, u4, u5, u6, u7, u8, u9, u10, rfl⟩ := len11 hus
        have e0 : u0 = .pointer (some ⟨g3, 1, none⟩) := hI.val 0 _ rfl (gen_after 0 (by kernel_rfl) hbp)
        subst e0
        have hch := hI.below
        have q := HC3.out.on hch HC3.out.lt; have c1 : w'.cell? ⟨g3, 1, none⟩ = some (.int .i64 c.kk) := q.at_ 1; have c2 : w'.cell? ⟨g3, 2, none⟩ = some (.int .i64 c.kn) := q.at_ 2; have c3 : w'.cell? ⟨g3, 3, none⟩ = some (.slice c.a c.len c.cap) := q.at_ 3; clear q
        have HI := Veil.mk hI
        clear hI
        simp only [puts, setAll, List.setIfInBounds_toArray, List.set_cons_zero, List.set_cons_succ]
        go_simp
        exact hK _ _ (gen_val HI.out hus hbs 1 _ _ (by show 1 < 11; decide) (playK_fit _ _ _ _) rfl hb0 rfl (Below.refl _ _) (by simp only [puts, setAll, List.set_cons_zero, List.set_cons_succ, List.setIfInBounds_toArray]))
      refine Steps.cons rfl (fun bb aa w' hbs hb0 hbp hI K hK => ?_) ?_
      · obtain ⟨us, hus, rfl, hI⟩ := hI
        obtain ⟨u0, u1, u2, u3, u4, u5, u6, u7, u8, u9, u10, rfl⟩ := len11 hus
        have e1 : u1 = (seedV c.kk c.kn c.a c.len c.cap) := hI.val 1 _ rfl (gen_after 1 (by kernel_rfl) hbp)
        subst e1
        have hch := hI.below
        have HI := Veil.mk hI
        clear hI
        simp only [puts, setAll, List.setIfInBounds_toArray, List.set_cons_zero, List.set_cons_succ]
        go_simp
        refine (HV.out w' hch).mono ?_
        intro e w2 hp
        obtain ⟨k1, n1, s1, wv1, rfl, hb2⟩ := hp
        go_simp
        exact hK _ _ (gen_val HI.out hus hbs 2 _ _ (by show 2 < 11; decide) (playK_fit _ _ _ _) rfl hb0 ⟨(k1, n1, s1), wv1, rfl⟩ hb2 (by simp only [puts, setAll, List.set_cons_zero, List.set_cons_succ, List.setIfInBounds_toArray]))
      refine Steps.cons rfl (fun bb aa w' hbs hb0 hbp hI K hK => ?_) ?_
      · obtain ⟨us, hus, rfl, hI⟩ := hI
        obtain ⟨u0, u1, u2, u3, u4, u5, u6, u7, u8, u9, u10, rfl⟩ := len11 hus
        have hch := hI.below
        skip
        have HI := Veil.mk hI
        clear hI
        simp only [puts, setAll, List.setIfInBounds_toArray, List.set_cons_zero, List.set_cons_succ]
        go_simp
        exact hK _ _ (gen_val HI.out hus hbs 3 _ _ (by show 3 < 11; decide) (playK_fit _ _ _ _) rfl hb0 rfl (Below.refl _ _) (by simp only [puts, setAll, List.set_cons_zero, List.set_cons_succ, List.setIfInBounds_toArray]))
      refine Steps.cons rfl (fun bb aa w' hbs hb0 hbp hI K hK => ?_) ?_
      · obtain ⟨us, hus, rfl, hI⟩ := hI
        obtain ⟨u0, u1, u2, u3, u4, u5, u6, u7, u8, u9, u10, rfl⟩ := len11 hus
        have e3 : u3 = .pointer (some ⟨g3, 4, none⟩) := hI.val 3 _ rfl (gen_after 3 (by kernel_rfl) hbp)
        subst e3
        have hch := hI.below
        have q := HC3.out.on hch HC3.out.lt; have c4 : w'.cell? ⟨g3, 4, none⟩ = some (.int .i64 c.val) := q.at_ 4; clear q
        have HI := Veil.mk hI
        clear hI
        simp only [puts, setAll, List.setIfInBounds_toArray, List.set_cons_zero, List.set_cons_succ]
        go_simp
        exact hK _ _ (gen_val HI.out hus hbs 4 _ _ (by show 4 < 11; decide) (playK_fit _ _ _ _) rfl hb0 rfl (Below.refl _ _) (by simp only [puts, setAll, List.set_cons_zero, List.set_cons_succ, List.setIfInBounds_toArray]))
      refine Steps.cons rfl (fun bb aa w' hbs hb0 hbp hI K hK => ?_) ?_
      · obtain ⟨us, hus, rfl, hI⟩ := hI
        obtain ⟨u0, u1, u2, u3, u4, u5, u6, u7, u8, u9, u10, rfl⟩ := len11 hus
        have e4 : u4 = .int .i64 c.val := hI.val 4 _ rfl (gen_after 4 (by kernel_rfl) hbp)
        subst e4
        have hch := hI.below
        have hm := HM.out
        have HI := Veil.mk hI
        clear hI
        simp only [puts, setAll, List.setIfInBounds_toArray, List.set_cons_zero, List.set_cons_succ]
        go_simp
        exact hK _ _ (gen_val HI.out hus hbs 5 _ _ (by show 5 < 11; decide) (playK_fit _ _ _ _) rfl hb0 rfl (Below.refl _ _) (by simp only [puts, setAll, List.set_cons_zero, List.set_cons_succ, List.setIfInBounds_toArray]))
      refine Steps.cons rfl (fun bb aa w' hbs hb0 hbp hI K hK => ?_) ?_
      · obtain ⟨us, hus, rfl, hI⟩ := hI
        obtain ⟨u0, u1, u2, u3, u4, u5, u6, u7, u8, u9, u10, rfl⟩ := len11 hus
        have e5 : u5 = .int .i64 (m : Int) := hI.val 5 _ rfl (gen_after 5 (by kernel_rfl) hbp)
        subst e5
        have hch := hI.below
        skip
        have HI := Veil.mk hI
        clear hI
        simp only [puts, setAll, List.setIfInBounds_toArray, List.set_cons_zero, List.set_cons_succ]
        go_simp
        exact hK _ _ (gen_val HI.out hus hbs 6 _ _ (by show 6 < 11; decide) (playK_fit _ _ _ _) rfl hb0 rfl (Below.refl _ _) (by simp only [puts, setAll, List.set_cons_zero, List.set_cons_succ, List.setIfInBounds_toArray]))
      refine Steps.cons rfl (fun bb aa w' hbs hb0 hbp hI K hK => ?_) ?_
      · obtain ⟨us, hus, rfl, hI⟩ := hI
        obtain ⟨u0, u1, u2, u3, u4, u5, u6, u7, u8, u9, u10, rfl⟩ := len11 hus
        have hch := hI.below
        have HI := Veil.mk hI
        clear hI
        simp only [puts, setAll, List.setIfInBounds_toArray, List.set_cons_zero, List.set_cons_succ]
        go_simp
        exact hK _ _ (gen_box HI.out hus hbs 7 _ _ _ _ (by show 7 < 11; decide) (playK_fit _ _ _ _) rfl hb0 (by simp only [puts, setAll, List.set_cons_zero, List.set_cons_succ, List.setIfInBounds_toArray]))
      refine Steps.cons rfl (fun bb aa w' hbs hb0 hbp hI K hK => ?_) ?_
      · obtain ⟨us, hus, rfl, hI⟩ := hI
        obtain ⟨u0, u1, u2, u3, u4, u5, u6, u7, u8, u9, u10, rfl⟩ := len11 hus
        have hch := hI.below
        have HI := Veil.mk hI
        clear hI
        simp only [puts, setAll, List.setIfInBounds_toArray, List.set_cons_zero, List.set_cons_succ]
        go_simp
        exact hK _ _ (gen_box HI.out hus hbs 8 _ _ _ _ (by show 8 < 11; decide) (playK_fit _ _ _ _) rfl hb0 (by simp only [puts, setAll, List.set_cons_zero, List.set_cons_succ, List.setIfInBounds_toArray]))
      refine Steps.cons rfl (fun bb aa w' hbs hb0 hbp hI K hK => ?_) ?_
      · obtain ⟨us, hus, rfl, hI⟩ := hI
        obtain ⟨u0, u1, u2, u3, u4, u5, u6, u7, u8, u9, u10, rfl⟩ := len11 hus
        have hch := hI.below
        have hq1 := gen_after 7 (by kernel_rfl) hbp
        have hq2 := gen_after 2 (by kernel_rfl) hbp
        have hq := gen_sto hI hus hbs 9 7 2 _ _ (by show 9 < 11; decide) (playK_fit _ _ _ _) rfl rfl hb0 hq1 hq2
        have hs : ∃ x : Vt, WV x.1 x.2.1 x.2.2 ∧ u2 = valV x := hI.val 2 _ rfl hq2
        clear hI
        simp only [puts, setAll, List.setIfInBounds_toArray, List.set_cons_zero, List.set_cons_succ]
        obtain ⟨g, hg, hx, hJ⟩ := hq
        have e7 : u7 = .pointer (some ⟨g, 0, none⟩) := hg
        subst e7
        clear hg
        obtain ⟨⟨k1, n1, s1⟩, wv1, rfl⟩ := hs
        have x0 : w'.cell? ⟨g, 0, none⟩ = some (.int .i64 0) := hx.at_ 0
        have x1 : w'.cell? ⟨g, 1, none⟩ = some (.int .i64 0) := hx.at_ 1
        have x2 : w'.cell? ⟨g, 2, none⟩ = some (.string ⟨#[]⟩) := hx.at_ 2
        have f0 := hx.free 0
        have f1 := hx.free 1
        have f2 := hx.free 2
        have HJ := Veil.mk hJ
        have HX := Veil.mk hx
        clear hJ hx
        go_simp
        exact hK _ _ (HJ.out _ _ _ _ (((HX.out.put 0 _).put 1 _).put 2 _) (touch3 _ _ _ _ _) (by simp only [puts, setAll, List.set_cons_zero, List.set_cons_succ, List.setIfInBounds_toArray]))
      refine Steps.cons rfl (fun bb aa w' hbs hb0 hbp hI K hK => ?_) ?_
      · obtain ⟨us, hus, rfl, hI⟩ := hI
        obtain ⟨u0, u1, u2, u3, u4, u5, u6, u7, u8, u9, u10, rfl⟩ := len11 hus
        have hch := hI.below
        have hq1 := gen_after 8 (by kernel_rfl) hbp
        have hq2 := gen_after 6 (by kernel_rfl) hbp
        have hq := gen_sto hI hus hbs 10 8 6 _ _ (by show 10 < 11; decide) (playK_fit _ _ _ _) rfl rfl hb0 hq1 hq2
        have hs : u6 = .agg #[.int .i64 3, .int .i64 (m : Int), .string ⟨#[]⟩] := hI.val 6 _ rfl hq2
        clear hI
        simp only [puts, setAll, List.setIfInBounds_toArray, List.set_cons_zero, List.set_cons_succ]
        obtain ⟨g, hg, hx, hJ⟩ := hq
        have e8 : u8 = .pointer (some ⟨g, 0, none⟩) := hg
        subst e8
        clear hg
        subst hs
        have x0 : w'.cell? ⟨g, 0, none⟩ = some (.int .i64 0) := hx.at_ 0
        have x1 : w'.cell? ⟨g, 1, none⟩ = some (.int .i64 0) := hx.at_ 1
        have x2 : w'.cell? ⟨g, 2, none⟩ = some (.string ⟨#[]⟩) := hx.at_ 2
        have f0 := hx.free 0
        have f1 := hx.free 1
        have f2 := hx.free 2
        have HJ := Veil.mk hJ
        have HX := Veil.mk hx
        clear hJ hx
        go_simp
        exact hK _ _ (HJ.out _ _ _ _ (((HX.out.put 0 _).put 1 _).put 2 _) (touch3 _ _ _ _ _) (by simp only [puts, setAll, List.set_cons_zero, List.set_cons_succ, List.setIfInBounds_toArray]))
      exact Steps.nil
    · intro us w5 hus d hd hJ
      obtain ⟨u0, u1, u2, u3, u4, u5, u6, u7, u8, u9, u10, rfl⟩ := len11 hus
      have p2 : ∃ x : Vt, WV x.1 x.2.1 x.2.2 ∧ u2 = valV x := hJ.val 2 _ rfl (hd 2 (by show 2 < 11; decide))
      have p6 : u6 = .agg #[.int .i64 3, .int .i64 (m : Int), .string ⟨#[]⟩] := hJ.val 6 _ rfl (hd 6 (by show 6 < 11; decide))
      have b7 := hJ.box 7 _ _ _ _ rfl (hd 7 (by show 7 < 11; decide))
      have b8 := hJ.box 8 _ _ _ _ rfl (hd 8 (by show 8 < 11; decide))
      rw [hd 9 (by show 9 < 11; decide)] at b7
      rw [hd 10 (by show 10 < 11; decide)] at b8
      have hbl := hJ.below
      clear hJ hd
      simp only [puts, setAll, List.setIfInBounds_toArray, List.set_cons_zero, List.set_cons_succ]
      have hP : PlayP W (m : Int) u7 u8 w5 := by
        obtain ⟨x, wx, e2⟩ := p2
        obtain ⟨ga, e7, -, x7⟩ := b7
        obtain ⟨gz, e8, -, x8⟩ := b8
        have f2 : uget [u0, u1, u2, u3, u4, u5, u6, u7, u8, u9, u10] 2 = valV x := e2
        have f6 : uget [u0, u1, u2, u3, u4, u5, u6, u7, u8, u9, u10] 6 = .agg #[.int .i64 3, .int .i64 (m : Int), .string ⟨#[]⟩] := p6
        rw [f2] at x7
        rw [f6] at x8
        exact ⟨ga, gz, x, e7, e8, wx, x7, x8, hbl⟩
      have HP := Veil.mk hP
      clear hP p2 p6 b7 b8 hbl
      go_wp2
      go_meet
      exact HP.out
  case rest =>
  obtain ⟨g5, g6, ⟨xk, xn, xs⟩, rfl, rfl, wx, b5, b6, hbw⟩ := hcut
  replace b5 : Box wc g5 82 #[.int .i64 xk, .int .i64 xn, .string xs] := b5
  replace b6 : Box wc g6 82 #[.int .i64 3, .int .i64 (m : Int), .string ⟨#[]⟩] := b6
  have HZ := Veil.mk (show xs.size ≤ 1000 from Nat.le_trans wx.size (by decide))
  have hS := HS0.out.on hbw
  have hc3 := HC3.out.on hbw HC3.out.lt
  have hBc : Below w.heap.size w wc := HBW.out.trans (hbw.mono HBW.out.size)
  clear wx HV HNW HS0 HC3 HM hbw
  have HS := Veil.mk hS
  have H5 := Veil.mk b5
  have H6 := Veil.mk b6
  have H3 := Veil.mk hc3
  have HBc := Veil.mk hBc
  have c30 : wc.cell? ⟨g3, 0, none⟩ = some (.int .i64 c.kind) := hc3.at_ 0
  have hkt := HKT.out.1
  have hkind := HKT.out.2
  clear hS b5 b6 hc3 hBc HKT
  go_upto_region 3 with (fail)
  have HKT := Veil.mk (And.intro hkt hkind)
  clear hkt hkind c30
  obtain ⟨ca, cc, rfl, hcc, hcg, hcm⟩ := slice_own HS.out.cp.rc
  obtain ⟨da, dc, rfl, hdc, hdg, hdm⟩ := slice_own HS.out.cp.rd
  have x2 : wc.cell? ⟨gb, 2, none⟩ = some (.slice ca cs.length cc) := HS.out.box.at_ 2
  have x3 : wc.cell? ⟨gb, 3, none⟩ = some (.slice da cs.length dc) := HS.out.box.at_ 3
  have x7 : wc.cell? ⟨g3, 5, none⟩ = some (.int .i64 c.n) := H3.out.at_ 5
  by_cases hz : cs.length = 0
  · rw [hz] at x2
    go_upto_region 23 with (fail)
    go_wp2
    go_ret
    exact ⟨rfl, _, _, l, cl, vl, _, _, cs, HS.out, hdn, .inl (Nat.le_refl _), by omega, Int.le_refl _, by omega, HBc.out.mono hBs⟩
  · obtain ⟨n7, n8, i, hi, hin⟩ := idx_facts c.n cs.length hz
    have hz' : (cs.length : Int) ≠ 0 := by omega
    have hz'' : ((cs.length : Int) == 0) = false := beq_eq_false_iff_ne.2 hz'
    go_upto_region 24 with (fail)
    go_quiet (fail)
    have hbq := below_drewN (Below.refl wc.heap.size wc) nq
    have hS3 := HS.out.on hbq
    have h33 := H3.out.on hbq H3.out.lt
    have hBc3 : Below w.heap.size w (wc.drewN nq) := HBc.out.trans (hbq.mono HBc.out.size)
    generalize wc.drewN nq = W3 at hS3 h33 hBc3 ⊢
    clear x2 x3 x7 hbq n7 n8 hin hz' hz''
    obtain ⟨x, hx⟩ : ∃ x, cs[i]? = some x := ⟨_, List.getElem?_eq_getElem hi⟩
    obtain ⟨gc, rfl⟩ := hcg (by omega)
    obtain ⟨gd, rfl⟩ := hdg (by omega)
    have rc : W3.cell? ⟨gc, i, none⟩ = some (.pointer (some ⟨x.c, 0, none⟩)) := by
      have h := hS3.cp.rc.cells (g := gc) rfl i (.pointer (some ⟨x.c, 0, none⟩)) (by rw [List.getElem?_map, hx]; rfl)
      rwa [add_off] at h
    have hxm := List.mem_of_getElem? hx
    have x2 : W3.cell? ⟨gb, 2, none⟩ = some (.slice (some ⟨gc, 0, none⟩) cs.length cc) := hS3.box.at_ 2
    have c30 : W3.cell? ⟨g3, 0, none⟩ = some (.int .i64 c.kind) := h33.at_ 0
    have hkt := HKT.out.1
    have hkind := HKT.out.2
    have hi2 : (i : Int) < (cs.length : Int) := by omega
    have hi0 : (0 : Int) ≤ (i : Int) := by omega
    have HX := Veil.mk (And.intro hx hxm)
    have HS3 := Veil.mk hS3
    have HB3 := Veil.mk hBc3
    clear hx hxm hS3 h33 hBc3 HS HBc HKT H3 H5 H6 HQ HBW
    have HCl := Veil.mk (closec_any HS3.out hdn hcs HX.out.1)
    go_wp2_with (first | (go_at_call 47; ((with_reducible refine HCl.out.mono ?_); rintro e w4 ⟨rfl, z1, z2, z3, z4, F4, O4, cs4, hF, hdn4, hl4, hb4⟩; have HSM := Veil.mk (same_any _ B gb t gm _ _ l cl vl _ _ cs4 (by omega) (by omega) hF); have HF := Veil.mk hF; clear hF x2 rc)) | (go_at_call 66; ((with_reducible refine HSM.out.mono ?_); rintro e w9 ⟨rfl, hb9⟩)))
    go_ret
    exact ⟨rfl, _, _, l, cl, vl, _, _, cs4, HF.out.on hb9, hdn4, .inl (by omega), by omega, Int.le_refl _, by omega, (HB3.out.mono hBs).trans (hb4.trans (hb9.mono HF.out.tf.le))⟩
end Go.Proofs.Ythlhchaapdhbfaa
