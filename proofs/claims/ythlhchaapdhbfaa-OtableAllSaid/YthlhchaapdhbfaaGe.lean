/- The reference's table: Put. -/
import Derived.Test.YthlhchaapdhbfaaGd
import Derived.Test.YthlhchaapdhbfaaIh
namespace Go.Proofs.Ythlhchaapdhbfaa
open Go Go.RowKit

theorem own_free2 {w : World} {B g n n' cap size : Nat} {e : TypeId} {xs : List Value} (h : w.ownsRow B e size (.slice (some ⟨g, 0, none⟩) n cap) n' xs) (i : Nat) : w.frozen? ⟨g, i, none⟩ = false := by
  rcases h.2 with ⟨h1, _⟩ | ⟨g', cap', cur, h1, h2, h3, _⟩
  · cases h1
  · cases h1
    simp [World.frozen?, h3]
theorem RT.setCell {w : World} {B g r n cap : Nat} {l : List Re} {cl : Int} (h : RT w B g l cl (.slice (some ⟨r, 0, none⟩) n cap)) (i c : Nat) (s s' : Re) (u : Value) (hs : l[i]? = some s) (hc : c < 8) (he : (reC s).set c u = reC s') :
    RT (w.setCell ⟨r, i * 8 + c, none⟩ u) B g (l.set i s') cl (.slice (some ⟨r, 0, none⟩) n cap) := by
  have tp : Touch (fun k => k = r) w (w.setCell ⟨r, i * 8 + c, none⟩ u) := Touch.put (S := fun k => k = r) rfl _ _
  refine ⟨h.box.touch tp (fun e => (h.box.lab.ne (own_lab h.own r rfl) (by decide)) e), ?_, h.bt⟩
  obtain ⟨a, cp, e, _⟩ := slice_own h.own
  cases e
  have := own_putN h.own (i * 8 + c) u
  rw [reFlat_setc l i c s s' u hs hc he] at this
  rw [List.length_set]
  exact this
theorem RT.setV {w : World} {B g r n cap : Nat} {l : List Re} {cl : Int} (h : RT w B g l cl (.slice (some ⟨r, 0, none⟩) n cap)) (i : Nat) (s : Re) (v : Vt) (hs : l[i]? = some s) :
    RT (((w.setCell ⟨r, i * 8 + 3, none⟩ (.int .i64 v.1)).setCell ⟨r, i * 8 + 4, none⟩ (.int .i64 v.2.1)).setCell ⟨r, i * 8 + 5, none⟩ (.string v.2.2)) B g (l.set i { s with val := v }) cl (.slice (some ⟨r, 0, none⟩) n cap) := by
  have hi := (List.getElem?_eq_some_iff.1 hs).1
  have h1 := h.setCell i 3 s { s with val := (v.1, s.val.2) } (.int .i64 v.1) hs (by omega) rfl
  have h2 := h1.setCell i 4 _ { s with val := (v.1, v.2.1, s.val.2.2) } (.int .i64 v.2.1) (List.getElem?_set_self hi) (by omega) rfl
  have h3 := h2.setCell i 5 _ { s with val := v } (.string v.2.2) (List.getElem?_set_self (by rw [List.length_set]; exact hi)) (by omega) rfl
  simp only [List.set_set] at h3
  exact h3
/-- The reference's table has become l', in its own blocks or new ones. -/
def RPost (B g : Nat) (l' : List Re) (cl : Int) (F : Nat → Prop) (w w' : World) : Prop := ∃ vl', RT w' B g l' cl vl' ∧ Touch F w w' ∧ ∀ k, RF g vl' k → F k ∨ w.heap.size ≤ k
/-- What Put makes of the entries. -/
def PutL (l : List Re) (k v : Vt) (f : Int) (l' : List Re) : Prop := (∃ (j : Nat) (x : Re), l[j]? = some x ∧ ReIs x k ∧ l' = l.set j { x with val := v, fl := f }) ∨ ((∀ x ∈ l, ¬ ReIs x k) ∧ l' = l ++ [⟨k, v, f, false⟩])
theorem Try.infoE : (Try.prog.info? 84).map (fun i => (i.zero, i.size, i.bytes)) = some (some (.agg #[.int .i64 0, .int .i64 0, .string ⟨#[]⟩, .int .i64 0, .int .i64 0, .string ⟨#[]⟩, .int .i64 0, .bool false]), 8, 80) := by kernel_rfl
theorem len13 {α : Type} {us : List α} (h : us.length = 13) : ∃ a0 a1 a2 a3 a4 a5 a6 a7 a8 a9 a10 a11 a12, us = [a0, a1, a2, a3, a4, a5, a6, a7, a8, a9, a10, a11, a12] := by
  match us, h with
  | [a0, a1, a2, a3, a4, a5, a6, a7, a8, a9, a10, a11, a12], _ => exact ⟨a0, a1, a2, a3, a4, a5, a6, a7, a8, a9, a10, a11, a12, rfl⟩
def putK (g : Nat) (a : Option Addr) (n cap : Nat) (k kk : Vt) : List (Option (Value → Prop)) := [some (· = .pointer (some ⟨g, 0, none⟩)), some (· = .pointer (some ⟨g, 0, none⟩)), some (· = .pointer (some ⟨g, 0, none⟩)), some (· = .pointer (some ⟨g, 0, none⟩)), some (· = .slice a n cap), some (· = .agg #[.int .i64 k.1, .int .i64 k.2.1, .string k.2.2]), some (· = .agg #[.int .i64 kk.1, .int .i64 kk.2.1, .string kk.2.2]), some (· = .agg #[.int .i64 kk.1, .int .i64 kk.2.1, .string kk.2.2, .int .i64 0, .int .i64 0, .string ⟨#[]⟩, .int .i64 0, .bool false]), none, none, some (· = .pointer (some ⟨g, 0, none⟩)), some (· = .pointer (some ⟨g, 0, none⟩)), none]
def RPutP (B g : Nat) (l : List Re) (cl : Int) (k v : Vt) (f : Int) (F : Nat → Prop) (w : World) (e : Ending) (w' : World) : Prop := e = .returned (.tuple #[]) ∧ ∃ l', PutL l k v f l' ∧ RPost B g l' cl F w w'
set_option maxHeartbeats 1000000 in
set_option maxRecDepth 100000 in
theorem rput_any (B g : Nat) (l : List Re) (cl : Int) (vl : Value) (hl : l.length < 90000) (k v : Vt) (f : Int) (w : World) (h : RT w B g l cl vl) :
    Calls Try.prog 61 #[.pointer (some ⟨g, 0, none⟩), valV k, valV v, .int .i64 f] w (RPutP B g l cl (keyT k) v f (RF g vl) w) := by
  obtain ⟨a, cap, rfl, hcap, hg2, hm2⟩ := slice_own h.own
  obtain ⟨i0, hi, hz0, hz1, hz2⟩ := info_parts Try.infoE
  obtain ⟨W, hW⟩ : ∃ W, W = (w.alloc (.cells #[.int .i64 k.1, .int .i64 k.2.1, .string k.2.2] 82)).alloc (.cells #[.int .i64 v.1, .int .i64 v.2.1, .string v.2.2] 82) := ⟨_, rfl⟩
  have hBW : Below w.heap.size w W := by rw [hW]; exact ((Below.refl _ _).alloc (Nat.le_refl _) _).alloc (by simp) _
  obtain ⟨gk, hgk⟩ : ∃ n, w.heap.size = n := ⟨_, rfl⟩
  obtain ⟨gv, hgv⟩ : ∃ n, w.heap.size + 1 = n := ⟨_, rfl⟩
  have bk : Box W gk 82 #[.int .i64 k.1, .int .i64 k.2.1, .string k.2.2] := by rw [hW, ← hgk]; exact (Box.new w _ _).more _
  have bv : Box W gv 82 #[.int .i64 v.1, .int .i64 v.2.1, .string v.2.2] := by
    rw [hW, ← hgv]
    have := Box.new (w.alloc (.cells #[.int .i64 k.1, .int .i64 k.2.1, .string k.2.2] 82)) 82 #[.int .i64 v.1, .int .i64 v.2.1, .string v.2.2]
    rwa [World.size_alloc] at this
  have hT := h.on hBW
  have HH := Veil.mk h
  have HW := Veil.mk (And.intro hW (And.intro hgk hgv))
  have HF := Veil.mk (rfind_any B g l cl _ (by omega) k W hT)
  have HK := Veil.mk rkey_any
  have k0 : W.cell? ⟨gk, 0, none⟩ = some (.int .i64 k.1) := bk.at_ 0
  have k1 : W.cell? ⟨gk, 1, none⟩ = some (.int .i64 k.2.1) := bk.at_ 1
  have k2 : W.cell? ⟨gk, 2, none⟩ = some (.string k.2.2) := bk.at_ 2
  have HBK := Veil.mk bk
  have HBV := Veil.mk bv
  have HT := Veil.mk hT
  clear hW h hT hgk hgv bk bv
  go_enter Try.func61, Try.ntmps61
  go_upto_region 1 with (fail)
  rw [← HW.out.1, HW.out.2.2, HW.out.2.1]
  clear HW
  go_upto_region 2 with (first | (go_at_call 63; ((with_reducible refine HF.out.mono ?_); rintro e w1 ⟨q, rfl, hq, hb1⟩)))
  have hT1 := HT.out.on hb1
  have bk1 := HBK.out.on hb1 HBK.out.lt
  have bv1 := HBV.out.on hb1 HBV.out.lt
  clear k0 k1 k2 HF HT HBK HBV
  rcases hq with ⟨j, x, rfl, hx, his⟩ | ⟨rfl, hno⟩
  · have HIS := Veil.mk his
    obtain ⟨r, rfl⟩ := hg2 (by have := (List.getElem?_eq_some_iff.1 hx).1; omega)
    have hjl := (List.getElem?_eq_some_iff.1 hx).1
    have n1 : ¬ (j : Int) < 0 := by omega
    have HX := Veil.mk hx
    have HT1 := Veil.mk hT1
    have HB1 := Veil.mk hb1
    clear his hx
    go_upto_region 5 with (fail)
    have t0 : w1.cell? ⟨g, 0, none⟩ = some (.slice (some ⟨r, 0, none⟩) l.length cap) := HT1.out.box.at_ 0
    have v0 : w1.cell? ⟨gv, 0, none⟩ = some (.int .i64 v.1) := bv1.at_ 0
    have v1 : w1.cell? ⟨gv, 1, none⟩ = some (.int .i64 v.2.1) := bv1.at_ 1
    have v2 : w1.cell? ⟨gv, 2, none⟩ = some (.string v.2.2) := bv1.at_ 2
    have q0 : (0 : Int) ≤ (j : Int) := by omega
    have q1 : (j : Int) < (l.length : Int) := by omega
    have f3 := own_free HT1.out.own (j * 8 + 3)
    have f4 := own_free HT1.out.own (j * 8 + 4)
    have f5 := own_free HT1.out.own (j * 8 + 5)
    obtain ⟨_, _, _, p3, p4, p5, _, _⟩ := HT1.out.at_ j x HX.out
    have HT5 := Veil.mk ((HT1.out.setV j x v HX.out).on (Below.refl _ _).drew)
    have tt : Touch (RF g (.slice (some ⟨r, 0, none⟩) l.length cap)) w1 (((w1.setCell ⟨r, j * 8 + 3, none⟩ (.int .i64 v.1)).setCell ⟨r, j * 8 + 4, none⟩ (.int .i64 v.2.1)).setCell ⟨r, j * 8 + 5, none⟩ (.string v.2.2)).drew := (((Touch.put (S := RF g (.slice (some ⟨r, 0, none⟩) l.length cap)) (.inr rfl) _ _).trans (Touch.put (.inr rfl) _ _)).trans (Touch.put (.inr rfl) _ _)).trans (Touch.of_below (Below.refl _ _).drew)
    have HTT := Veil.mk tt
    clear tt
    clear bv1 bk1 hT1 hb1
    go_region
    generalize (((w1.setCell ⟨r, j * 8 + 3, none⟩ (.int .i64 v.1)).setCell ⟨r, j * 8 + 4, none⟩ (.int .i64 v.2.1)).setCell ⟨r, j * 8 + 5, none⟩ (.string v.2.2)).drew = A at HT5 HTT ⊢
    clear t0 v0 v1 v2 f3 f4 f5 p3 p4 p5
    have hT5 := HT5.out
    have hx5 : (l.set j { x with val := v })[j]? = some { x with val := v } := List.getElem?_set_self (by omega)
    have t0 : A.cell? ⟨g, 0, none⟩ = some (.slice (some ⟨r, 0, none⟩) l.length cap) := hT5.box.at_ 0
    have f6 := own_free2 hT5.own (j * 8 + 6)
    have p6 := (hT5.at_ j _ hx5).f
    have HT6 := Veil.mk (hT5.setCell j 6 _ { x with val := v, fl := f } (.int .i64 f) hx5 (by omega) rfl)
    clear hT5 hx5
    go_wp2
    have HD : RPutP B g l cl (keyT k) v f (RF g (.slice (some ⟨r, 0, none⟩) l.length cap)) w (.returned (.tuple #[])) (A.setCell ⟨r, j * 8 + 6, none⟩ (.int .i64 f)) := by
      have h6 := HT6.out
      simp only [List.set_set] at h6
      have ht := HTT.out.trans (Touch.put (S := RF g (.slice (some ⟨r, 0, none⟩) l.length cap)) (w := A) (.inr rfl) (j * 8 + 6) (.int .i64 f))
      exact ⟨rfl, _, .inl ⟨j, x, HX.out, HIS.out, rfl⟩, _, h6, (Touch.of_below (hBW.trans (HB1.out.mono hBW.size))).trans ht, fun k hk => .inl (by rcases hk with e | e; exact .inl e; exact .inr e)⟩
    go_end0
    exact HD
  · have HNO := Veil.mk hno
    have n1 : (-1 : Int) < 0 := by omega
    have HT1 := Veil.mk hT1
    have HB1 := Veil.mk hb1
    have t0 : w1.cell? ⟨g, 0, none⟩ = some (.slice a l.length cap) := hT1.box.at_ 0
    have k0 : w1.cell? ⟨gk, 0, none⟩ = some (.int .i64 k.1) := bk1.at_ 0
    have k1 : w1.cell? ⟨gk, 1, none⟩ = some (.int .i64 k.2.1) := bk1.at_ 1
    have k2 : w1.cell? ⟨gk, 2, none⟩ = some (.string k.2.2) := bk1.at_ 2
    have HBV := Veil.mk bv1
    have HBK := Veil.mk bk1
    have hbD : Below w1.heap.size w1 w1.drew := (Below.refl _ _).drew
    have hBs : B ≤ w1.heap.size := by have := hT1.bt; have := hT1.box.lt; omega
    obtain ⟨⟨kk0, kk1, kk2⟩, hkk⟩ : ∃ q, keyT k = q := ⟨_, rfl⟩
    have HK2 : Veil (∀ w, Calls Try.prog 77 #[valV k] w fun e w' => e = .returned (.agg #[.int .i64 kk0, .int .i64 kk1, .string kk2]) ∧ Below w.heap.size w w') := ⟨fun w => by
      have := HK.out k w
      rw [hkk] at this
      exact this⟩
    have HKK := Veil.mk hkk
    clear hno hb1 bk1 bv1 hg2 hkk HK hT1
    go_upto_region 3 with (fail)
    refine wp_region_chain (putK g a l.length cap k (kk0, kk1, kk2)) (AppPh w1 B 84 8 l.length (reFlat l) [.int .i64 kk0, .int .i64 kk1, .string kk2, .int .i64 0, .int .i64 0, .string ⟨#[]⟩, .int .i64 0, .bool false] (.slice a l.length cap) g 0 8 9 12) [some 14, some 15, some 16, some 17, some 18, some 19, some 20, some 21, some 22, some 23, some 24, some 25, none] (List.replicate 13 undef) (by kernel_rfl) rfl rfl (by simp only [puts, setAll, List.replicate, List.set_cons_zero, List.set_cons_succ, List.setIfInBounds_toArray]) (Below.refl _ _).drew ?_ (by kernel_rfl) ?_
    · refine Steps.cons rfl (fun bb aa w' hbs hb0 hbp hI K hK => ?_) ?_
      · obtain ⟨us, hus, ha, hI⟩ := hI
        obtain ⟨u0, u1, u2, u3, u4, u5, u6, u7, u8, u9, u10, u11, u12, rfl⟩ := len13 hus
        have HI := Veil.mk hI
        clear hI
        rw [ha]
        simp only [puts, setAll, List.setIfInBounds_toArray, List.set_cons_zero, List.set_cons_succ]
        go_simp
        exact hK _ _ (chain_step HI.out hus hbs 0 _ (by show 0 < 13; decide) rfl hbp (val_of rfl rfl) (HI.out.ph.step 0 _ (by decide) (by decide) (by decide)) (by simp only [puts, setAll, List.set_cons_zero, List.set_cons_succ, List.setIfInBounds_toArray]))
      refine Steps.cons rfl (fun bb aa w' hbs hb0 hbp hI K hK => ?_) ?_
      · obtain ⟨us, hus, ha, hI⟩ := hI
        obtain ⟨u0, u1, u2, u3, u4, u5, u6, u7, u8, u9, u10, u11, u12, rfl⟩ := len13 hus
        have HI := Veil.mk hI
        clear hI
        rw [ha]
        simp only [puts, setAll, List.setIfInBounds_toArray, List.set_cons_zero, List.set_cons_succ]
        go_simp
        exact hK _ _ (chain_step HI.out hus hbs 1 _ (by show 1 < 13; decide) rfl hbp (val_of rfl rfl) (HI.out.ph.step 1 _ (by decide) (by decide) (by decide)) (by simp only [puts, setAll, List.set_cons_zero, List.set_cons_succ, List.setIfInBounds_toArray]))
      refine Steps.cons rfl (fun bb aa w' hbs hb0 hbp hI K hK => ?_) ?_
      · obtain ⟨us, hus, ha, hI⟩ := hI
        obtain ⟨u0, u1, u2, u3, u4, u5, u6, u7, u8, u9, u10, u11, u12, rfl⟩ := len13 hus
        have e1 : u1 = .pointer (some ⟨g, 0, none⟩) := hI.val 1 _ rfl (gen_after 1 (by kernel_rfl) hbp)
        subst e1
        have HI := Veil.mk hI
        clear hI
        rw [ha]
        simp only [puts, setAll, List.setIfInBounds_toArray, List.set_cons_zero, List.set_cons_succ]
        go_simp
        exact hK _ _ (chain_step HI.out hus hbs 2 _ (by show 2 < 13; decide) rfl hbp (val_of rfl rfl) (HI.out.ph.step 2 _ (by decide) (by decide) (by decide)) (by simp only [puts, setAll, List.set_cons_zero, List.set_cons_succ, List.setIfInBounds_toArray]))
      refine Steps.cons rfl (fun bb aa w' hbs hb0 hbp hI K hK => ?_) ?_
      · obtain ⟨us, hus, ha, hI⟩ := hI
        obtain ⟨u0, u1, u2, u3, u4, u5, u6, u7, u8, u9, u10, u11, u12, rfl⟩ := len13 hus
        have e2 : u2 = .pointer (some ⟨g, 0, none⟩) := hI.val 2 _ rfl (gen_after 2 (by kernel_rfl) hbp)
        subst e2
        have HI := Veil.mk hI
        clear hI
        rw [ha]
        simp only [puts, setAll, List.setIfInBounds_toArray, List.set_cons_zero, List.set_cons_succ]
        go_simp
        exact hK _ _ (chain_step HI.out hus hbs 3 _ (by show 3 < 13; decide) rfl hbp (val_of rfl rfl) (HI.out.ph.step 3 _ (by decide) (by decide) (by decide)) (by simp only [puts, setAll, List.set_cons_zero, List.set_cons_succ, List.setIfInBounds_toArray]))
      refine Steps.cons rfl (fun bb aa w' hbs hb0 hbp hI K hK => ?_) ?_
      · obtain ⟨us, hus, ha, hI⟩ := hI
        obtain ⟨u0, u1, u2, u3, u4, u5, u6, u7, u8, u9, u10, u11, u12, rfl⟩ := len13 hus
        have e3 : u3 = .pointer (some ⟨g, 0, none⟩) := hI.val 3 _ rfl (gen_after 3 (by kernel_rfl) hbp)
        subst e3
        have h9 := hI.before 9 4 rfl (by kernel_rfl) hb0
        have h12 := hI.before 12 9 rfl (by kernel_rfl) h9
        have hch := hI.ph.below h12 h9
        have c0 : w'.cell? ⟨g, 0, none⟩ = some (.slice a l.length cap) := (HT1.out.on hch).box.at_ 0
        have HI := Veil.mk hI
        clear hI
        clear h12
        clear h9
        rw [ha]
        simp only [puts, setAll, List.setIfInBounds_toArray, List.set_cons_zero, List.set_cons_succ]
        go_simp
        exact hK _ _ (chain_step HI.out hus hbs 4 _ (by show 4 < 13; decide) rfl hbp (val_of rfl rfl) (HI.out.ph.step 4 _ (by decide) (by decide) (by decide)) (by simp only [puts, setAll, List.set_cons_zero, List.set_cons_succ, List.setIfInBounds_toArray]))
      refine Steps.cons rfl (fun bb aa w' hbs hb0 hbp hI K hK => ?_) ?_
      · obtain ⟨us, hus, ha, hI⟩ := hI
        obtain ⟨u0, u1, u2, u3, u4, u5, u6, u7, u8, u9, u10, u11, u12, rfl⟩ := len13 hus
        have h6 := hI.before 6 5 rfl (by kernel_rfl) hb0
        have h7 := hI.before 7 6 rfl (by kernel_rfl) h6
        have h8 := hI.before 8 7 rfl (by kernel_rfl) h7
        have h9 := hI.before 9 8 rfl (by kernel_rfl) h8
        have h12 := hI.before 12 9 rfl (by kernel_rfl) h9
        have hch := hI.ph.below h12 h9
        have q := HBK.out.on hch HBK.out.lt; have c0 : w'.cell? ⟨gk, 0, none⟩ = some (.int .i64 k.1) := q.at_ 0; have c1 : w'.cell? ⟨gk, 1, none⟩ = some (.int .i64 k.2.1) := q.at_ 1; have c2 : w'.cell? ⟨gk, 2, none⟩ = some (.string k.2.2) := q.at_ 2; clear q
        have HI := Veil.mk hI
        clear hI
        clear h12
        clear h9
        clear h8
        clear h7
        clear h6
        rw [ha]
        simp only [puts, setAll, List.setIfInBounds_toArray, List.set_cons_zero, List.set_cons_succ]
        go_simp
        exact hK _ _ (chain_step HI.out hus hbs 5 _ (by show 5 < 13; decide) rfl hbp (val_of rfl rfl) (HI.out.ph.step 5 _ (by decide) (by decide) (by decide)) (by simp only [puts, setAll, List.set_cons_zero, List.set_cons_succ, List.setIfInBounds_toArray]))
      refine Steps.cons rfl (fun bb aa w' hbs hb0 hbp hI K hK => ?_) ?_
      · obtain ⟨us, hus, ha, hI⟩ := hI
        obtain ⟨u0, u1, u2, u3, u4, u5, u6, u7, u8, u9, u10, u11, u12, rfl⟩ := len13 hus
        have e5 : u5 = .agg #[.int .i64 k.1, .int .i64 k.2.1, .string k.2.2] := hI.val 5 _ rfl (gen_after 5 (by kernel_rfl) hbp)
        subst e5
        have h7 := hI.before 7 6 rfl (by kernel_rfl) hb0
        have h8 := hI.before 8 7 rfl (by kernel_rfl) h7
        have h9 := hI.before 9 8 rfl (by kernel_rfl) h8
        have h12 := hI.before 12 9 rfl (by kernel_rfl) h9
        have hch := hI.ph.below h12 h9
        have HI := Veil.mk hI
        clear hI
        have HF := Veil.mk (And.intro h12 (And.intro h9 h8))
        clear h12
        clear h9
        clear h8
        clear h7
        rw [ha]
        simp only [puts, setAll, List.setIfInBounds_toArray, List.set_cons_zero, List.set_cons_succ]
        go_simp
        refine (HK2.out w').mono ?_
        rintro e w2 ⟨rfl, hb2⟩
        go_simp
        exact hK _ _ (chain_step HI.out hus hbs 6 _ (by show 6 < 13; decide) rfl hbp (val_of rfl rfl) (HI.out.ph.call 6 _ (by decide) (by decide) (by decide) HF.out.1 HF.out.2.1 hb2 HF.out.2.2) (by simp only [puts, setAll, List.set_cons_zero, List.set_cons_succ, List.setIfInBounds_toArray]))
      refine Steps.cons rfl (fun bb aa w' hbs hb0 hbp hI K hK => ?_) ?_
      · obtain ⟨us, hus, ha, hI⟩ := hI
        obtain ⟨u0, u1, u2, u3, u4, u5, u6, u7, u8, u9, u10, u11, u12, rfl⟩ := len13 hus
        have e6 : u6 = .agg #[.int .i64 kk0, .int .i64 kk1, .string kk2] := hI.val 6 _ rfl (gen_after 6 (by kernel_rfl) hbp)
        subst e6
        have HI := Veil.mk hI
        clear hI
        rw [ha]
        simp only [puts, setAll, List.setIfInBounds_toArray, List.set_cons_zero, List.set_cons_succ]
        go_simp
        exact hK _ _ (chain_step HI.out hus hbs 7 _ (by show 7 < 13; decide) rfl hbp (val_of rfl rfl) (HI.out.ph.step 7 _ (by decide) (by decide) (by decide)) (by simp only [puts, setAll, List.set_cons_zero, List.set_cons_succ, List.setIfInBounds_toArray]))
      refine Steps.cons rfl (fun bb aa w' hbs hb0 hbp hI K hK => ?_) ?_
      · obtain ⟨us, hus, ha, hI⟩ := hI
        obtain ⟨u0, u1, u2, u3, u4, u5, u6, u7, u8, u9, u10, u11, u12, rfl⟩ := len13 hus
        have e7 : u7 = .agg #[.int .i64 kk0, .int .i64 kk1, .string kk2, .int .i64 0, .int .i64 0, .string ⟨#[]⟩, .int .i64 0, .bool false] := hI.val 7 _ rfl (gen_after 7 (by kernel_rfl) hbp)
        subst e7
        have h9 := hI.before 9 8 rfl (by kernel_rfl) hb0
        have h12 := hI.before 12 9 rfl (by kernel_rfl) h9
        have HI := Veil.mk hI
        clear hI
        have HF := Veil.mk (And.intro h12 h9)
        clear h12
        clear h9
        rw [ha]
        simp only [puts, setAll, List.setIfInBounds_toArray, List.set_cons_zero, List.set_cons_succ]
        go_simp
        exact hK _ _ (chain_step HI.out hus hbs 8 _ (by show 8 < 13; decide) rfl hbp (none_of rfl) (HI.out.ph.row (by decide) (by decide) HF.out.1 HF.out.2) (by simp only [puts, setAll, List.set_cons_zero, List.set_cons_succ, List.setIfInBounds_toArray]))
      refine Steps.cons rfl (fun bb aa w' hbs hb0 hbp hI K hK => ?_) ?_
      · obtain ⟨us, hus, ha, hI⟩ := hI
        obtain ⟨u0, u1, u2, u3, u4, u5, u6, u7, u8, u9, u10, u11, u12, rfl⟩ := len13 hus
        have e4 : u4 = .slice a l.length cap := hI.val 4 _ rfl (gen_after 4 (by kernel_rfl) hbp)
        subst e4
        have h12 := hI.before 12 9 rfl (by kernel_rfl) hb0
        have hp := hI.ph.at_bs h12 hb0 (gen_after 8 (by kernel_rfl) hbp)
        have HI := Veil.mk hI
        clear hI
        have HF := Veil.mk h12
        clear h12
        rw [ha]
        simp only [puts, setAll, List.setIfInBounds_toArray, List.set_cons_zero, List.set_cons_succ]
        clear ha
        obtain ⟨w2, hch, e8, rfl⟩ := hp
        have e : u8 = .slice (some ⟨w2.heap.size, 0, none⟩) 1 1 := e8
        clear e8
        subst e
        have hT2 := HT1.out.on hch
        have hs2 := hch.size
        refine wp_append_lies _ (.tmp 18) (.tmp 22) 68 rfl B 84 i0 (.agg #[.int .i64 0, .int .i64 0, .string ⟨#[]⟩, .int .i64 0, .int .i64 0, .string ⟨#[]⟩, .int .i64 0, .bool false]) 8 80 Try.underlying68 hi hz0 hz1 hz2 rfl (by decide) (.slice a l.length cap) l.length (reFlat l) (by simp [Act.eval]) (hT2.own.alloc _) ⟨w2.heap.size, 0, none⟩ 1 1 [.int .i64 kk0, .int .i64 kk1, .string kk2, .int .i64 0, .int .i64 0, .string ⟨#[]⟩, .int .i64 0, .bool false] (by simp [Act.eval]) rfl (news_at _ _ rfl _ _) (by simp [Value.oneCell']) (by decide) (by unfold maxLen; omega) (by omega) (by simp; omega) _ rfl ?_; intro r cap' w3 hown' hgrow3 hblk hg3
        exact hK _ _ (chain_step HI.out hus hbs 9 _ (by show 9 < 13; decide) rfl hbp (none_of rfl) (AppPh.app (by decide) HF.out hch hown' hgrow3 hblk) (by simp only [Act.put, puts, setAll, List.set_cons_zero, List.set_cons_succ, List.setIfInBounds_toArray]))
      refine Steps.cons rfl (fun bb aa w' hbs hb0 hbp hI K hK => ?_) ?_
      · obtain ⟨us, hus, ha, hI⟩ := hI
        obtain ⟨u0, u1, u2, u3, u4, u5, u6, u7, u8, u9, u10, u11, u12, rfl⟩ := len13 hus
        have e0 : u0 = .pointer (some ⟨g, 0, none⟩) := hI.val 0 _ rfl (gen_after 0 (by kernel_rfl) hbp)
        subst e0
        have HI := Veil.mk hI
        clear hI
        rw [ha]
        simp only [puts, setAll, List.setIfInBounds_toArray, List.set_cons_zero, List.set_cons_succ]
        go_simp
        exact hK _ _ (chain_step HI.out hus hbs 10 _ (by show 10 < 13; decide) rfl hbp (val_of rfl rfl) (HI.out.ph.step 10 _ (by decide) (by decide) (by decide)) (by simp only [puts, setAll, List.set_cons_zero, List.set_cons_succ, List.setIfInBounds_toArray]))
      refine Steps.cons rfl (fun bb aa w' hbs hb0 hbp hI K hK => ?_) ?_
      · obtain ⟨us, hus, ha, hI⟩ := hI
        obtain ⟨u0, u1, u2, u3, u4, u5, u6, u7, u8, u9, u10, u11, u12, rfl⟩ := len13 hus
        have e10 : u10 = .pointer (some ⟨g, 0, none⟩) := hI.val 10 _ rfl (gen_after 10 (by kernel_rfl) hbp)
        subst e10
        have HI := Veil.mk hI
        clear hI
        rw [ha]
        simp only [puts, setAll, List.setIfInBounds_toArray, List.set_cons_zero, List.set_cons_succ]
        go_simp
        exact hK _ _ (chain_step HI.out hus hbs 11 _ (by show 11 < 13; decide) rfl hbp (val_of rfl rfl) (HI.out.ph.step 11 _ (by decide) (by decide) (by decide)) (by simp only [puts, setAll, List.set_cons_zero, List.set_cons_succ, List.setIfInBounds_toArray]))
      refine Steps.cons rfl (fun bb aa w' hbs hb0 hbp hI K hK => ?_) ?_
      · obtain ⟨us, hus, ha, hI⟩ := hI
        obtain ⟨u0, u1, u2, u3, u4, u5, u6, u7, u8, u9, u10, u11, u12, rfl⟩ := len13 hus
        have e11 : u11 = .pointer (some ⟨g, 0, none⟩) := hI.val 11 _ rfl (gen_after 11 (by kernel_rfl) hbp)
        subst e11
        have hp := hI.ph.at_ap hb0 (gen_after 9 (by kernel_rfl) hbp)
        have HI := Veil.mk hI
        clear hI
        rw [ha]
        simp only [puts, setAll, List.setIfInBounds_toArray, List.set_cons_zero, List.set_cons_succ]
        clear ha
        obtain ⟨r, cap', e9, w2, hch, hown', hgrow3, hblk⟩ := hp
        have e : u9 = .slice (some ⟨r, 0, none⟩) (l.length + 1) cap' := e9
        clear e9
        subst e
        have hT2 := HT1.out.on hch
        have hx3 : Box w' g 70 #[.slice a l.length cap, .int .i64 cl] := (hT2.box.more _).grown hgrow3 (hT2.box.apart hT2.own (by decide))
        have e12 : w'.cell? ⟨g, 0, none⟩ = some (.slice a l.length cap) := hx3.at_ 0
        have e13 := hx3.free 0
        go_simp
        exact hK _ _ (chain_step HI.out hus hbs 12 undef (by show 12 < 13; decide) rfl hbp (none_of rfl) (AppPh.sto hch hown' hgrow3 hblk) (by simp only [puts, setAll, List.set_cons_zero, List.set_cons_succ, List.setIfInBounds_toArray]))
      exact Steps.nil
    · intro us w5 hus d hd hJ
      obtain ⟨u0, u1, u2, u3, u4, u5, u6, u7, u8, u9, u10, u11, u12, rfl⟩ := len13 hus
      have hp := hJ.ph.at_st (hd 12 (by show 12 < 13; decide))
      clear hJ hd
      simp only [puts, setAll, List.setIfInBounds_toArray, List.set_cons_zero, List.set_cons_succ]
      obtain ⟨w3, r, cap', ⟨w2, hb2, ho, hg, hr⟩, hw5⟩ := hp
      obtain ⟨x, hxd⟩ : ∃ x : Re, x = ⟨(kk0, kk1, kk2), (0, 0, ⟨#[]⟩), 0, false⟩ := ⟨_, rfl⟩
      obtain ⟨l2, hl2⟩ : ∃ l2, l ++ [x] = l2 := ⟨_, rfl⟩
      obtain ⟨j, hj⟩ : ∃ j, l.length = j := ⟨_, rfl⟩
      have hlen2 : l2.length = j + 1 := by rw [← hl2, List.length_append, hj]; rfl
      have hx2 : l2[j]? = some x := by rw [← hl2, ← hj]; simp
      have hT2 := HT1.out.on hb2
      have hgx : Box w3 g 70 #[.slice a l.length cap, .int .i64 cl] := (hT2.box.more _).grown hg (hT2.box.apart hT2.own (by decide))
      have hT5 : RT w5 B g l2 cl (.slice (some ⟨r, 0, none⟩) l2.length cap') := by
        rw [hw5]
        have tp : Touch (fun k => k = g) w3 (w3.setCell ⟨g, 0, none⟩ (.slice (some ⟨r, 0, none⟩) (l.length + 1) cap')) := Touch.put (S := fun k => k = g) rfl _ _
        have e : l2.length = l.length + 1 := by rw [← hl2]; simp
        rw [e]
        refine ⟨hgx.put 0 _, ?_, hT2.bt⟩
        have ho2 := own_touch ho tp (fun k hk e => ((own_lab ho k hk).ne hgx.lab (by decide)) e)
        rw [← hl2, reFlat_snoc, hxd, List.length_append]
        exact ho2
      have tg : Touch (RF g (.slice a l.length cap)) w2 w5 := by
        rw [hw5]
        exact ((Touch.of_below ((Below.refl w2.heap.size w2).alloc (Nat.le_refl _) (.cells #[.int .i64 kk0, .int .i64 kk1, .string kk2, .int .i64 0, .int .i64 0, .string ⟨#[]⟩, .int .i64 0, .bool false] 84))).trans (Touch.of_grown hg (fun k hk => .inr hk))).trans (Touch.put (S := RF g (.slice a l.length cap)) (.inl rfl) _ _)
      have hB2 : Below w.heap.size w w2 := (hBW.trans (HB1.out.mono hBW.size)).trans (hb2.mono (Nat.le_trans hBW.size HB1.out.size))
      have HT05 := Veil.mk ((Touch.of_below hB2).trans tg)
      have hfr : ∀ k, RF g (.slice (some ⟨r, 0, none⟩) l2.length cap') k → RF g (.slice a l.length cap) k ∨ w.heap.size ≤ k := fun k hk => by
        rcases hk with e | e
        · exact .inl (.inl e)
        · cases e
          rcases hr with h | h
          · exact .inl (.inr h)
          · refine .inr ?_
            have := hB2.size
            show w.heap.size ≤ r
            rw [h, World.size_alloc]
            omega
      have HFR := Veil.mk hfr
      have hbv2 := HBV.out.on hb2 HBV.out.lt
      have bv2 : Box w5 gv 82 #[.int .i64 v.1, .int .i64 v.2.1, .string v.2.2] := hbv2.touch tg (fun hk => by
        rcases hk with e | e
        · exact hbv2.lab.ne hT2.box.lab (by decide) e
        · exact (own_lab hT2.own gv e).ne hbv2.lab (by decide) rfl)
      have HL2 : Veil (l2.set j { x with val := v, fl := f } = l ++ [⟨keyT k, v, f, false⟩]) := ⟨by
        rw [← hl2, ← hj, List.set_append_right _ _ (Nat.le_refl _), Nat.sub_self, hxd, HKK.out]; rfl⟩
      have HX2 := Veil.mk hx2
      have HT2 := Veil.mk hT5
      have t0 : w5.cell? ⟨g, 0, none⟩ = some (.slice (some ⟨r, 0, none⟩) l2.length cap') := hT5.box.at_ 0
      have e4 : IntKind.i64.wrap ((l2.length : Int) - 1) = (j : Int) := by rw [hlen2, show ((j + 1 : Nat) : Int) - 1 = (j : Int) by omega]; exact IntWalk.i64_in _ (by omega)
      have hj9 : j < 90000 := by omega
      have hlen3 : j < l2.length := by omega
      clear ho hg hr hw5 hl2 hxd hj hlen2 hx2 hT2 hgx tg hB2 hfr hbv2 hT5 hb2 k0 k1 k2
      go_wp2
      go_upto_region 5 with (fail)
      clear t0 e4
      have t0 : w5.cell? ⟨g, 0, none⟩ = some (.slice (some ⟨r, 0, none⟩) l2.length cap') := HT2.out.box.at_ 0
      have v0 : w5.cell? ⟨gv, 0, none⟩ = some (.int .i64 v.1) := bv2.at_ 0
      have v1 : w5.cell? ⟨gv, 1, none⟩ = some (.int .i64 v.2.1) := bv2.at_ 1
      have v2 : w5.cell? ⟨gv, 2, none⟩ = some (.string v.2.2) := bv2.at_ 2
      have q0 : (0 : Int) ≤ (j : Int) := by omega
      have q1 : (j : Int) < (l2.length : Int) := by omega
      have f3 := own_free HT2.out.own (j * 8 + 3)
      have f4 := own_free HT2.out.own (j * 8 + 4)
      have f5 := own_free HT2.out.own (j * 8 + 5)
      obtain ⟨_, _, _, p3, p4, p5, _, _⟩ := HT2.out.at_ j x HX2.out
      have HT5 := Veil.mk ((HT2.out.setV j x v HX2.out).on (Below.refl _ _).drew)
      have tt : Touch (RF g (.slice (some ⟨r, 0, none⟩) l2.length cap')) w5 (((w5.setCell ⟨r, j * 8 + 3, none⟩ (.int .i64 v.1)).setCell ⟨r, j * 8 + 4, none⟩ (.int .i64 v.2.1)).setCell ⟨r, j * 8 + 5, none⟩ (.string v.2.2)).drew := (((Touch.put (S := RF g (.slice (some ⟨r, 0, none⟩) l2.length cap')) (.inr rfl) _ _).trans (Touch.put (.inr rfl) _ _)).trans (Touch.put (.inr rfl) _ _)).trans (Touch.of_below (Below.refl _ _).drew)
      have HTT := Veil.mk tt
      clear tt
      clear bv2
      go_region
      generalize (((w5.setCell ⟨r, j * 8 + 3, none⟩ (.int .i64 v.1)).setCell ⟨r, j * 8 + 4, none⟩ (.int .i64 v.2.1)).setCell ⟨r, j * 8 + 5, none⟩ (.string v.2.2)).drew = A at HT5 HTT ⊢
      clear t0 v0 v1 v2 f3 f4 f5 p3 p4 p5
      have hT5 := HT5.out
      have hx5 : (l2.set j { x with val := v })[j]? = some { x with val := v } := List.getElem?_set_self (by omega)
      have t0 : A.cell? ⟨g, 0, none⟩ = some (.slice (some ⟨r, 0, none⟩) l2.length cap') := hT5.box.at_ 0
      have f6 := own_free2 hT5.own (j * 8 + 6)
      have p6 := (hT5.at_ j _ hx5).f
      have HT6 := Veil.mk (hT5.setCell j 6 _ { x with val := v, fl := f } (.int .i64 f) hx5 (by omega) rfl)
      clear hT5 hx5
      go_wp2
      have HD : RPutP B g l cl (keyT k) v f (RF g (.slice a l.length cap)) w (.returned (.tuple #[])) (A.setCell ⟨r, j * 8 + 6, none⟩ (.int .i64 f)) := by
        have h6 := HT6.out
        simp only [List.set_set] at h6
        have ht := HTT.out.trans (Touch.put (S := RF g (.slice (some ⟨r, 0, none⟩) l2.length cap')) (w := A) (.inr rfl) (j * 8 + 6) (.int .i64 f))
        have hs := (Fs.trans (F2 := RF g (.slice (some ⟨r, 0, none⟩) l2.length cap')) ⟨HT05.out, HFR.out⟩ ⟨ht, fun _ h => .inl h⟩)
        exact ⟨rfl, _, .inr ⟨HNO.out, HL2.out⟩, _, h6, hs.touch, hs.fresh⟩
      go_end0
      exact HD
end Go.Proofs.Ythlhchaapdhbfaa
