/- ArenaKeeps: fill. -/
import Derived.Test.YtkkbfadfgdjkdaaKa
import Derived.Test.YtkkbfadfgdjkdaaIr
namespace Go.Proofs.Ytkkbfadfgdjkdaa
open Go Go.RowKit

theorem len16 {α : Type} {us : List α} (h : us.length = 16) : ∃ a0 a1 a2 a3 a4 a5 a6 a7 a8 a9 a10 a11 a12 a13 a14 a15, us = [a0, a1, a2, a3, a4, a5, a6, a7, a8, a9, a10, a11, a12, a13, a14, a15] := by
  match us, h with
  | [a0, a1, a2, a3, a4, a5, a6, a7, a8, a9, a10, a11, a12, a13, a14, a15], _ => exact ⟨a0, a1, a2, a3, a4, a5, a6, a7, a8, a9, a10, a11, a12, a13, a14, a15, rfl⟩
theorem Touch.drew' {S : Nat → Prop} {w w' : World} (h : Touch S w w') : Touch S w w'.drew := ⟨h.os, h.tape, h.output, h.size, h.block⟩
theorem Touch.trans2 {S : Nat → Prop} {a b c d : World} (h : Touch S a b) (e : b = c) (h2 : Touch S c d) : Touch S a d := by subst e; exact h.trans h2
/-- The two bodies of a pair, filled. -/
structure Filled (B x y : Nat) (L : List Int) (T : List (Int × Int)) (G : List Int) (ev : Value) (vs : Fin 6 → Value) (w : World) : Prop where
  bx : Box w x 30 #[vs 0, vs 1, vs 2, ev]
  by_ : Box w y 71 #[vs 3, vs 4, vs 5, ev]
  r0 : w.ownsRow B 3 1 (vs 0) L.length (intsV L)
  r1 : w.ownsRow B 32 2 (vs 1) T.length (flat2 T)
  r2 : w.ownsRow B 3 1 (vs 2) G.length (intsV G)
  r3 : w.ownsRow B 3 1 (vs 3) L.length (intsV L)
  r4 : w.ownsRow B 32 2 (vs 4) T.length (flat2 T)
  r5 : w.ownsRow B 3 1 (vs 5) G.length (intsV G)
theorem own_xy {w w' : World} {B e sz n x y : Nat} {v : Value} {xs : List Value} {a b : Array Value} (h : w.ownsRow B e sz v n xs) (hx : Box w x 30 a) (hy : Box w y 71 b) (he1 : e ≠ 30) (he2 : e ≠ 71) (ht : Touch (fun k => k = x ∨ k = y) w w') : w'.ownsRow B e sz v n xs :=
  own_touch h ht (fun k hk hs => by
    rcases hs with hs | hs
    · exact (own_lab h k hk).ne hx.lab he1 hs
    · exact (own_lab h k hk).ne hy.lab he2 hs)
def six (a b c d e f : Value) : Fin 6 → Value
  | 0 => a
  | 1 => b
  | 2 => c
  | 3 => d
  | 4 => e
  | 5 => f
set_option maxHeartbeats 8000000 in
set_option maxRecDepth 100000 in
theorem fill_any (A x y : Nat) (L : List Int) (T : List (Int × Int)) (G : List Int) (r k nn : Int) (s1 s2 s3 ev : Value) (w : World) (hA : A ≤ w.heap.size) (hxA : A ≤ x) (hyA : A ≤ y) (hbx : Box w x 30 #[.slice none 0 0, .slice none 0 0, .slice none 0 0, ev]) (hby : Box w y 71 #[.slice none 0 0, .slice none 0 0, .slice none 0 0, ev])
    (h1 : Rd w A s1 L.length 1 (intsV L)) (h2 : Rd w A s2 T.length 2 (flat2 T)) (h3 : Rd w A s3 G.length 1 (intsV G)) (hl1 : L.length ≤ 2000) (hl2 : T.length ≤ 2000) (hl3 : G.length ≤ 2000) :
    Calls Try.prog 31 #[.agg #[.int .i64 r, .pointer (some ⟨x, 0, none⟩), .pointer (some ⟨y, 0, none⟩)], .agg #[.int .i64 k, s1, s2, s3, .int .i64 nn]] w fun e w' => e = .returned (.tuple #[]) ∧ Below A w w' ∧ Touch (fun k => k = x ∨ k = y) w w' ∧ ∃ vs, Filled w.heap.size x y L T G ev vs w' := by
  obtain ⟨i0, hi, hz0, hz1, hz2⟩ := info_parts Try.infoI
  obtain ⟨i1, hj, hy0, hy1, hy2⟩ := info_parts Try.infoPR
  have HR1 := Veil.mk h1
  have HR2 := Veil.mk h2
  have HR3 := Veil.mk h3
  have HGE := Veil.mk (And.intro hxA hyA)
  have hyx : y ≠ x := fun e => hby.lab.ne hbx.lab (by decide) e
  obtain ⟨pb, hpb⟩ : ∃ pb, w.heap.size = pb := ⟨_, rfl⟩
  obtain ⟨sb, hsb⟩ : ∃ sb, w.heap.size + 1 = sb := ⟨_, rfl⟩
  have bp := Box.new w 73 #[.int .i64 r, .pointer (some ⟨x, 0, none⟩), .pointer (some ⟨y, 0, none⟩)]
  have bp := bp.more (.cells #[.int .i64 k, s1, s2, s3, .int .i64 nn] 48)
  have bs := Box.new (w.alloc (.cells #[.int .i64 r, .pointer (some ⟨x, 0, none⟩), .pointer (some ⟨y, 0, none⟩)] 73)) 48 #[.int .i64 k, s1, s2, s3, .int .i64 nn]
  have bb : Below w.heap.size w ((w.alloc (.cells #[.int .i64 r, .pointer (some ⟨x, 0, none⟩), .pointer (some ⟨y, 0, none⟩)] 73)).alloc (.cells #[.int .i64 k, s1, s2, s3, .int .i64 nn] 48)) := ((Below.refl _ _).alloc (Nat.le_refl _) _).alloc (by rw [World.size_alloc]; omega) _
  rw [World.size_alloc] at bs
  have hxl := hbx.lt
  have hyl := hby.lt
  have ho1 : ∃ a c, s1 = .slice a L.length c := by obtain ⟨_, a, c, e, _⟩ := h1; exact ⟨a, c, e⟩
  have ho2 : ∃ a c, s2 = .slice a T.length c := by obtain ⟨_, a, c, e, _⟩ := h2; exact ⟨a, c, e⟩
  have ho3 : ∃ a c, s3 = .slice a G.length c := by obtain ⟨_, a, c, e, _⟩ := h3; exact ⟨a, c, e⟩
  obtain ⟨sa1, sc1, rfl⟩ := ho1
  obtain ⟨sa2, sc2, rfl⟩ := ho2
  obtain ⟨sa3, sc3, rfl⟩ := ho3
  have HWN := Veil.mk (And.intro hpb hsb)
  have HAW := Veil.mk hA
  clear h1 h2 h3 hpb hsb
  go_enter Try.func31, Try.ntmps31
  go_upto_region 1 with (fail)
  obtain ⟨hpb, hsb⟩ := HWN.out
  rw [hsb, hpb]
  rw [hpb] at bb bp hxl hyl
  rw [hsb] at bs
  obtain ⟨W, hW⟩ : ∃ W, (w.alloc (.cells #[.int .i64 r, .pointer (some ⟨x, 0, none⟩), .pointer (some ⟨y, 0, none⟩)] 73)).alloc (.cells #[.int .i64 k, .slice sa1 L.length sc1, .slice sa2 T.length sc2, .slice sa3 G.length sc3, .int .i64 nn] 48) = W := ⟨_, rfl⟩
  rw [hW] at bp bs bb ⊢
  have HPQ := Veil.mk (And.intro bp (And.intro (show pb ≠ x by omega) (show pb ≠ y by omega)))
  have HSQ := Veil.mk (And.intro bs (And.intro (show sb ≠ x by omega) (show sb ≠ y by omega)))
  have HXQ := Veil.mk (And.intro (hbx.on bb hxl) (And.intro (hby.on bb hyl) hyx))
  have HB : Veil (Below A w W) := ⟨bb.mono (by omega)⟩
  have HTW : Veil (Touch (fun k => k = x ∨ k = y) w W) := ⟨Touch.of_below (by rw [hpb]; exact bb)⟩
  clear bp bs bb hW hbx hby hxl hyl hpb hsb hyx hA hxA hyA
  obtain ⟨WD, hWD⟩ : ∃ WD, W.drew = WD := ⟨_, rfl⟩
  have HBD : Veil (Below A w WD) := ⟨by rw [← hWD]; exact HB.out.drew⟩
  have HBD2 : Veil (A ≤ WD.heap.size) := ⟨by have := HBD.out.size; have := HAW.out; omega⟩
  have HPB : Veil (Box WD pb 73 #[.int .i64 r, .pointer (some ⟨x, 0, none⟩), .pointer (some ⟨y, 0, none⟩)] ∧ pb ≠ x ∧ pb ≠ y) := ⟨by rw [← hWD]; exact HPQ.out.1.drew, HPQ.out.2⟩
  have HSB : Veil (Box WD sb 48 #[.int .i64 k, .slice sa1 L.length sc1, .slice sa2 T.length sc2, .slice sa3 G.length sc3, .int .i64 nn] ∧ sb ≠ x ∧ sb ≠ y) := ⟨by rw [← hWD]; exact HSQ.out.1.drew, HSQ.out.2⟩
  have HXB : Veil (Box WD x 30 #[.slice none 0 0, .slice none 0 0, .slice none 0 0, ev] ∧ Box WD y 71 #[.slice none 0 0, .slice none 0 0, .slice none 0 0, ev] ∧ y ≠ x) := ⟨by rw [← hWD]; exact HXQ.out.1.drew, by rw [← hWD]; exact HXQ.out.2.1.drew, HXQ.out.2.2⟩
  have HWS : Veil (w.heap.size ≤ WD.heap.size) := ⟨by have := HTW.out.size; rw [← hWD]; exact this⟩
  have HWD := Veil.mk hWD
  clear hWD
  refine wp_region_chain ([some (· = .pointer (some ⟨pb, 1, none⟩)), some (· = .pointer (some ⟨x, 0, none⟩)), some (· = .pointer (some ⟨pb, 2, none⟩)), some (· = .pointer (some ⟨y, 0, none⟩)), some (· = .pointer (some ⟨sb, 1, none⟩)), some (· = (.slice sa1 L.length sc1)), none, some (· = .pointer (some ⟨sb, 1, none⟩)), some (· = (.slice sa1 L.length sc1)), none, some (· = .pointer (some ⟨x, 0, none⟩)), some (· = .pointer (some ⟨x, 0, none⟩)), none, some (· = .pointer (some ⟨y, 0, none⟩)), some (· = .pointer (some ⟨y, 0, none⟩)), none] : List (Option (Value → Prop))) (LPh [6, 9, 12, 15] (FlSt WD x y 0 3 1 L.length (intsV L))) [some 4, some 5, some 6, some 7, some 8, some 9, some 10, some 11, some 12, some 13, some 14, some 15, none, some 16, some 17, none] (curV' _ [some 4, some 5, some 6, some 7, some 8, some 9, some 10, some 11, some 12, some 13, some 14, some 15, none, some 16, some 17, none]) (by kernel_rfl) rfl rfl (puts_cur _ _) (LPh.start (show W.drew = WD from HWD.out)) ?_ (by kernel_rfl) ?_
  · refine Steps.cons rfl (fun bb aa w' hbs hb0 hbp hI K hK => ?_) ?_
    · obtain ⟨us, hus, ha, hI⟩ := hI
      obtain ⟨u0, u1, u2, u3, u4, u5, u6, u7, u8, u9, u10, u11, u12, u13, u14, u15, rfl⟩ := len16 hus
      have HI := Veil.mk hI
      clear hI
      rw [ha]
      simp only [puts, setAll, List.setIfInBounds_toArray, List.set_cons_zero, List.set_cons_succ]
      go_simp
      exact hK _ _ (chain_step HI.out hus hbs 0 _ (by show 0 < 16; decide) rfl hbp (val_of rfl rfl) (HI.out.ph.step 0 _ (by decide) (by decide)) (by simp only [puts, setAll, List.set_cons_zero, List.set_cons_succ, List.setIfInBounds_toArray]))
    refine Steps.cons rfl (fun bb aa w' hbs hb0 hbp hI K hK => ?_) ?_
    · obtain ⟨us, hus, ha, hI⟩ := hI
      obtain ⟨u0, u1, u2, u3, u4, u5, u6, u7, u8, u9, u10, u11, u12, u13, u14, u15, rfl⟩ := len16 hus
      have e0 : u0 = .pointer (some ⟨pb, 1, none⟩) := hI.val 0 _ rfl (gen_after 0 (by kernel_rfl) hbp)
      subst e0
      have c0 : w'.cell? ⟨pb, 1, none⟩ = some (.pointer (some ⟨x, 0, none⟩)) := (hI.ph.any (fun w => Box w pb 73 _) (fun s f w h => h.box HPB.out.1 HPB.out.2.1 HPB.out.2.2)).at_ 1
      have HI := Veil.mk hI
      clear hI
      rw [ha]
      simp only [puts, setAll, List.setIfInBounds_toArray, List.set_cons_zero, List.set_cons_succ]
      go_simp
      exact hK _ _ (chain_step HI.out hus hbs 1 _ (by show 1 < 16; decide) rfl hbp (val_of rfl rfl) (HI.out.ph.step 1 _ (by decide) (by decide)) (by simp only [puts, setAll, List.set_cons_zero, List.set_cons_succ, List.setIfInBounds_toArray]))
    refine Steps.cons rfl (fun bb aa w' hbs hb0 hbp hI K hK => ?_) ?_
    · obtain ⟨us, hus, ha, hI⟩ := hI
      obtain ⟨u0, u1, u2, u3, u4, u5, u6, u7, u8, u9, u10, u11, u12, u13, u14, u15, rfl⟩ := len16 hus
      have HI := Veil.mk hI
      clear hI
      rw [ha]
      simp only [puts, setAll, List.setIfInBounds_toArray, List.set_cons_zero, List.set_cons_succ]
      go_simp
      exact hK _ _ (chain_step HI.out hus hbs 2 _ (by show 2 < 16; decide) rfl hbp (val_of rfl rfl) (HI.out.ph.step 2 _ (by decide) (by decide)) (by simp only [puts, setAll, List.set_cons_zero, List.set_cons_succ, List.setIfInBounds_toArray]))
    refine Steps.cons rfl (fun bb aa w' hbs hb0 hbp hI K hK => ?_) ?_
    · obtain ⟨us, hus, ha, hI⟩ := hI
      obtain ⟨u0, u1, u2, u3, u4, u5, u6, u7, u8, u9, u10, u11, u12, u13, u14, u15, rfl⟩ := len16 hus
      have e2 : u2 = .pointer (some ⟨pb, 2, none⟩) := hI.val 2 _ rfl (gen_after 2 (by kernel_rfl) hbp)
      subst e2
      have c0 : w'.cell? ⟨pb, 2, none⟩ = some (.pointer (some ⟨y, 0, none⟩)) := (hI.ph.any (fun w => Box w pb 73 _) (fun s f w h => h.box HPB.out.1 HPB.out.2.1 HPB.out.2.2)).at_ 2
      have HI := Veil.mk hI
      clear hI
      rw [ha]
      simp only [puts, setAll, List.setIfInBounds_toArray, List.set_cons_zero, List.set_cons_succ]
      go_simp
      exact hK _ _ (chain_step HI.out hus hbs 3 _ (by show 3 < 16; decide) rfl hbp (val_of rfl rfl) (HI.out.ph.step 3 _ (by decide) (by decide)) (by simp only [puts, setAll, List.set_cons_zero, List.set_cons_succ, List.setIfInBounds_toArray]))
    refine Steps.cons rfl (fun bb aa w' hbs hb0 hbp hI K hK => ?_) ?_
    · obtain ⟨us, hus, ha, hI⟩ := hI
      obtain ⟨u0, u1, u2, u3, u4, u5, u6, u7, u8, u9, u10, u11, u12, u13, u14, u15, rfl⟩ := len16 hus
      have HI := Veil.mk hI
      clear hI
      rw [ha]
      simp only [puts, setAll, List.setIfInBounds_toArray, List.set_cons_zero, List.set_cons_succ]
      go_simp
      exact hK _ _ (chain_step HI.out hus hbs 4 _ (by show 4 < 16; decide) rfl hbp (val_of rfl rfl) (HI.out.ph.step 4 _ (by decide) (by decide)) (by simp only [puts, setAll, List.set_cons_zero, List.set_cons_succ, List.setIfInBounds_toArray]))
    refine Steps.cons rfl (fun bb aa w' hbs hb0 hbp hI K hK => ?_) ?_
    · obtain ⟨us, hus, ha, hI⟩ := hI
      obtain ⟨u0, u1, u2, u3, u4, u5, u6, u7, u8, u9, u10, u11, u12, u13, u14, u15, rfl⟩ := len16 hus
      have e4 : u4 = .pointer (some ⟨sb, 1, none⟩) := hI.val 4 _ rfl (gen_after 4 (by kernel_rfl) hbp)
      subst e4
      have c0 : w'.cell? ⟨sb, 1, none⟩ = some (.slice sa1 L.length sc1) := (hI.ph.any (fun w => Box w sb 48 _) (fun s f w h => h.box HSB.out.1 HSB.out.2.1 HSB.out.2.2)).at_ 1
      have HI := Veil.mk hI
      clear hI
      rw [ha]
      simp only [puts, setAll, List.setIfInBounds_toArray, List.set_cons_zero, List.set_cons_succ]
      go_simp
      exact hK _ _ (chain_step HI.out hus hbs 5 _ (by show 5 < 16; decide) rfl hbp (val_of rfl rfl) (HI.out.ph.step 5 _ (by decide) (by decide)) (by simp only [puts, setAll, List.set_cons_zero, List.set_cons_succ, List.setIfInBounds_toArray]))
    refine Steps.cons rfl (fun bb aa w' hbs hb0 hbp hI K hK => ?_) ?_
    · obtain ⟨us, hus, ha, hI⟩ := hI
      obtain ⟨u0, u1, u2, u3, u4, u5, u6, u7, u8, u9, u10, u11, u12, u13, u14, u15, rfl⟩ := len16 hus
      have e5 : u5 = (.slice sa1 L.length sc1) := hI.val 5 _ rfl (gen_after 5 (by kernel_rfl) hbp)
      subst e5
      have hst := hI.ph.at_ 0 6 rfl hb0 (.inl rfl)
      have HBA : Below A w w' := by rw [show w' = WD from hst]; exact HBD.out
      have HST := Veil.mk (show w' = WD from hst)
      have HI := Veil.mk hI
      clear hI
      rw [ha]
      simp only [puts, setAll, List.setIfInBounds_toArray, List.set_cons_zero, List.set_cons_succ]
      refine wp_append_nil w' (.const (.slice none 0 0)) (.tmp 9) 22 rfl 3 i0 (.int .i64 0) 1 8 Try.underlying22 hi hz0 hz1 hz2 rfl (by decide) A L.length (.slice sa1 L.length sc1) (intsV L) (by simp [Act.eval]) (by simp [Act.eval]) (HR1.out.on HBA) (intsV_one L) (by unfold maxLen; omega) (by omega) ?_
      intro v9 w9 hb9 ho9
      exact hK _ _ (chain_step HI.out hus hbs 6 v9 (by show 6 < 16; decide) rfl hbp (none_of rfl) (HI.out.ph.next 0 6 _ rfl hb0 (.inl rfl) (by decide) ⟨by rw [← HST.out]; exact hb9, by rw [← HST.out]; exact ho9⟩) (by simp only [Act.put, puts, setAll, List.set_cons_zero, List.set_cons_succ, List.setIfInBounds_toArray]))
    refine Steps.cons rfl (fun bb aa w' hbs hb0 hbp hI K hK => ?_) ?_
    · obtain ⟨us, hus, ha, hI⟩ := hI
      obtain ⟨u0, u1, u2, u3, u4, u5, u6, u7, u8, u9, u10, u11, u12, u13, u14, u15, rfl⟩ := len16 hus
      have HI := Veil.mk hI
      clear hI
      rw [ha]
      simp only [puts, setAll, List.setIfInBounds_toArray, List.set_cons_zero, List.set_cons_succ]
      go_simp
      exact hK _ _ (chain_step HI.out hus hbs 7 _ (by show 7 < 16; decide) rfl hbp (val_of rfl rfl) (HI.out.ph.step 7 _ (by decide) (by decide)) (by simp only [puts, setAll, List.set_cons_zero, List.set_cons_succ, List.setIfInBounds_toArray]))
    refine Steps.cons rfl (fun bb aa w' hbs hb0 hbp hI K hK => ?_) ?_
    · obtain ⟨us, hus, ha, hI⟩ := hI
      obtain ⟨u0, u1, u2, u3, u4, u5, u6, u7, u8, u9, u10, u11, u12, u13, u14, u15, rfl⟩ := len16 hus
      have e7 : u7 = .pointer (some ⟨sb, 1, none⟩) := hI.val 7 _ rfl (gen_after 7 (by kernel_rfl) hbp)
      subst e7
      have c0 : w'.cell? ⟨sb, 1, none⟩ = some (.slice sa1 L.length sc1) := (hI.ph.any (fun w => Box w sb 48 _) (fun s f w h => h.box HSB.out.1 HSB.out.2.1 HSB.out.2.2)).at_ 1
      have HI := Veil.mk hI
      clear hI
      rw [ha]
      simp only [puts, setAll, List.setIfInBounds_toArray, List.set_cons_zero, List.set_cons_succ]
      go_simp
      exact hK _ _ (chain_step HI.out hus hbs 8 _ (by show 8 < 16; decide) rfl hbp (val_of rfl rfl) (HI.out.ph.step 8 _ (by decide) (by decide)) (by simp only [puts, setAll, List.set_cons_zero, List.set_cons_succ, List.setIfInBounds_toArray]))
    refine Steps.cons rfl (fun bb aa w' hbs hb0 hbp hI K hK => ?_) ?_
    · obtain ⟨us, hus, ha, hI⟩ := hI
      obtain ⟨u0, u1, u2, u3, u4, u5, u6, u7, u8, u9, u10, u11, u12, u13, u14, u15, rfl⟩ := len16 hus
      have e8 : u8 = (.slice sa1 L.length sc1) := hI.val 8 _ rfl (gen_after 8 (by kernel_rfl) hbp)
      subst e8
      have hst := hI.ph.at_ 1 9 rfl hb0 (.inr ⟨6, rfl, gen_after 6 (by kernel_rfl) hbp⟩)
      obtain ⟨q1, q2⟩ := hst
      have HBA : Below A w w' := HBD.out.trans (q1.mono HBD2.out)
      have HST := Veil.mk (And.intro q1 q2)
      clear q1 q2
      have HI := Veil.mk hI
      clear hI
      rw [ha]
      simp only [puts, setAll, List.setIfInBounds_toArray, List.set_cons_zero, List.set_cons_succ]
      refine wp_append_nil w' (.const (.slice none 0 0)) (.tmp 12) 22 rfl 3 i0 (.int .i64 0) 1 8 Try.underlying22 hi hz0 hz1 hz2 rfl (by decide) A L.length (.slice sa1 L.length sc1) (intsV L) (by simp [Act.eval]) (by simp [Act.eval]) (HR1.out.on HBA) (intsV_one L) (by unfold maxLen; omega) (by omega) ?_
      intro v9 w9 hb9 ho9
      exact hK _ _ (chain_step HI.out hus hbs 9 v9 (by show 9 < 16; decide) rfl hbp (none_of rfl) (HI.out.ph.next 1 9 _ rfl hb0 (.inr ⟨6, rfl, gen_after 6 (by kernel_rfl) hbp⟩) (by decide) (FlA.of HST.out.1 HST.out.2 hb9 ho9)) (by simp only [Act.put, puts, setAll, List.set_cons_zero, List.set_cons_succ, List.setIfInBounds_toArray]))
    refine Steps.cons rfl (fun bb aa w' hbs hb0 hbp hI K hK => ?_) ?_
    · obtain ⟨us, hus, ha, hI⟩ := hI
      obtain ⟨u0, u1, u2, u3, u4, u5, u6, u7, u8, u9, u10, u11, u12, u13, u14, u15, rfl⟩ := len16 hus
      have e1 : u1 = .pointer (some ⟨x, 0, none⟩) := hI.val 1 _ rfl (gen_after 1 (by kernel_rfl) hbp)
      subst e1
      have HI := Veil.mk hI
      clear hI
      rw [ha]
      simp only [puts, setAll, List.setIfInBounds_toArray, List.set_cons_zero, List.set_cons_succ]
      go_simp
      exact hK _ _ (chain_step HI.out hus hbs 10 _ (by show 10 < 16; decide) rfl hbp (val_of rfl rfl) (HI.out.ph.step 10 _ (by decide) (by decide)) (by simp only [puts, setAll, List.set_cons_zero, List.set_cons_succ, List.setIfInBounds_toArray]))
    refine Steps.cons rfl (fun bb aa w' hbs hb0 hbp hI K hK => ?_) ?_
    · obtain ⟨us, hus, ha, hI⟩ := hI
      obtain ⟨u0, u1, u2, u3, u4, u5, u6, u7, u8, u9, u10, u11, u12, u13, u14, u15, rfl⟩ := len16 hus
      have e10 : u10 = .pointer (some ⟨x, 0, none⟩) := hI.val 10 _ rfl (gen_after 10 (by kernel_rfl) hbp)
      subst e10
      have HI := Veil.mk hI
      clear hI
      rw [ha]
      simp only [puts, setAll, List.setIfInBounds_toArray, List.set_cons_zero, List.set_cons_succ]
      go_simp
      exact hK _ _ (chain_step HI.out hus hbs 11 _ (by show 11 < 16; decide) rfl hbp (val_of rfl rfl) (HI.out.ph.step 11 _ (by decide) (by decide)) (by simp only [puts, setAll, List.set_cons_zero, List.set_cons_succ, List.setIfInBounds_toArray]))
    refine Steps.cons rfl (fun bb aa w' hbs hb0 hbp hI K hK => ?_) ?_
    · obtain ⟨us, hus, ha, hI⟩ := hI
      obtain ⟨u0, u1, u2, u3, u4, u5, u6, u7, u8, u9, u10, u11, u12, u13, u14, u15, rfl⟩ := len16 hus
      have e11 : u11 = .pointer (some ⟨x, 0, none⟩) := hI.val 11 _ rfl (gen_after 11 (by kernel_rfl) hbp)
      subst e11
      have hst := hI.ph.at_ 2 12 rfl hb0 (.inr ⟨9, rfl, gen_after 9 (by kernel_rfl) hbp⟩)
      replace hst : FlA WD 3 1 L.length (intsV L) u6 u9 w' := hst
      have HST := Veil.mk hst
      have bq := HXB.out.1.below hst.bel
      obtain ⟨ao6, cp6, e6, -⟩ := slice_own hst.r1
      subst e6
      have c0 : ∃ u, w'.cell? ⟨x, 0, none⟩ = some u := ⟨_, bq.at_ 0⟩
      obtain ⟨u99, c0⟩ := c0
      have c0f := bq.free 0
      clear hst bq
      have HI := Veil.mk hI
      clear hI
      rw [ha]
      simp only [puts, setAll, List.setIfInBounds_toArray, List.set_cons_zero, List.set_cons_succ]
      go_simp
      exact hK _ _ (chain_step HI.out hus hbs 12 undef (by show 12 < 16; decide) rfl hbp (none_of rfl) (HI.out.ph.next 2 12 _ rfl hb0 (.inr ⟨9, rfl, gen_after 9 (by kernel_rfl) hbp⟩) (by decide) ⟨w', HST.out, rfl⟩) (by simp only [puts, setAll, List.set_cons_zero, List.set_cons_succ, List.setIfInBounds_toArray]))
    refine Steps.cons rfl (fun bb aa w' hbs hb0 hbp hI K hK => ?_) ?_
    · obtain ⟨us, hus, ha, hI⟩ := hI
      obtain ⟨u0, u1, u2, u3, u4, u5, u6, u7, u8, u9, u10, u11, u12, u13, u14, u15, rfl⟩ := len16 hus
      have e3 : u3 = .pointer (some ⟨y, 0, none⟩) := hI.val 3 _ rfl (gen_after 3 (by kernel_rfl) hbp)
      subst e3
      have HI := Veil.mk hI
      clear hI
      rw [ha]
      simp only [puts, setAll, List.setIfInBounds_toArray, List.set_cons_zero, List.set_cons_succ]
      go_simp
      exact hK _ _ (chain_step HI.out hus hbs 13 _ (by show 13 < 16; decide) rfl hbp (val_of rfl rfl) (HI.out.ph.step 13 _ (by decide) (by decide)) (by simp only [puts, setAll, List.set_cons_zero, List.set_cons_succ, List.setIfInBounds_toArray]))
    refine Steps.cons rfl (fun bb aa w' hbs hb0 hbp hI K hK => ?_) ?_
    · obtain ⟨us, hus, ha, hI⟩ := hI
      obtain ⟨u0, u1, u2, u3, u4, u5, u6, u7, u8, u9, u10, u11, u12, u13, u14, u15, rfl⟩ := len16 hus
      have e13 : u13 = .pointer (some ⟨y, 0, none⟩) := hI.val 13 _ rfl (gen_after 13 (by kernel_rfl) hbp)
      subst e13
      have HI := Veil.mk hI
      clear hI
      rw [ha]
      simp only [puts, setAll, List.setIfInBounds_toArray, List.set_cons_zero, List.set_cons_succ]
      go_simp
      exact hK _ _ (chain_step HI.out hus hbs 14 _ (by show 14 < 16; decide) rfl hbp (val_of rfl rfl) (HI.out.ph.step 14 _ (by decide) (by decide)) (by simp only [puts, setAll, List.set_cons_zero, List.set_cons_succ, List.setIfInBounds_toArray]))
    refine Steps.cons rfl (fun bb aa w' hbs hb0 hbp hI K hK => ?_) ?_
    · obtain ⟨us, hus, ha, hI⟩ := hI
      obtain ⟨u0, u1, u2, u3, u4, u5, u6, u7, u8, u9, u10, u11, u12, u13, u14, u15, rfl⟩ := len16 hus
      have e14 : u14 = .pointer (some ⟨y, 0, none⟩) := hI.val 14 _ rfl (gen_after 14 (by kernel_rfl) hbp)
      subst e14
      have hst := hI.ph.at_ 3 15 rfl hb0 (.inr ⟨12, rfl, gen_after 12 (by kernel_rfl) hbp⟩)
      obtain ⟨w2, q1, q2⟩ := hst
      replace q1 : FlA WD 3 1 L.length (intsV L) u6 u9 w2 := q1
      replace q2 : w' = w2.setCell ⟨x, 0, none⟩ u6 := q2
      have HST := Veil.mk (And.intro q1 q2)
      have bq := HXB.out.2.1.below q1.bel
      have bq2 : Box w' y 71 #[.slice none 0 0, .slice none 0 0, .slice none 0 0, ev] := by rw [q2]; exact bq.touch (S := fun k => k = x) (Touch.put (S := fun k => k = x) rfl _ _) HXB.out.2.2
      obtain ⟨ao9, cp9, e9, -⟩ := slice_own q1.r2
      subst e9
      have c0 : ∃ u, w'.cell? ⟨y, 0, none⟩ = some u := ⟨_, bq2.at_ 0⟩
      obtain ⟨u99, c0⟩ := c0
      have c0f := bq2.free 0
      clear q1 q2 bq bq2
      have HI := Veil.mk hI
      clear hI
      rw [ha]
      simp only [puts, setAll, List.setIfInBounds_toArray, List.set_cons_zero, List.set_cons_succ]
      go_simp
      exact hK _ _ (chain_step HI.out hus hbs 15 undef (by show 15 < 16; decide) rfl hbp (none_of rfl) (HI.out.ph.next 3 15 _ rfl hb0 (.inr ⟨12, rfl, gen_after 12 (by kernel_rfl) hbp⟩) (by decide) ⟨w2, HST.out.1, congrArg (fun ww => World.setCell ww ⟨y, 0, none⟩ _) HST.out.2⟩) (by simp only [puts, setAll, List.set_cons_zero, List.set_cons_succ, List.setIfInBounds_toArray]))
    exact Steps.nil
  · intro us w9 hus dd hD2 hJ
    obtain ⟨p0, p1, p2, p3, p4, p5, p6, p7, p8, p9, p10, p11, p12, p13, p14, p15, rfl⟩ := len16 hus
    obtain ⟨w2, q1, q2⟩ := hJ.ph.all (fun c hc => hD2 c (by
      have : c = 6 ∨ c = 9 ∨ c = 12 ∨ c = 15 := by simpa using hc
      show c < 16
      omega))
    replace q1 : FlA WD 3 1 L.length (intsV L) p6 p9 w2 := q1
    replace q2 : w9 = (w2.setCell ⟨x, 0, none⟩ p6).setCell ⟨y, 0, none⟩ p9 := q2
    have bx9 := (HXB.out.1.below q1.bel).put 0 p6
    have ty9 : Touch (fun k => k = x) w2 (w2.setCell ⟨x, 0, none⟩ p6) := Touch.put (S := fun k => k = x) rfl _ _
    have by9 := ((HXB.out.2.1.below q1.bel).touch ty9 HXB.out.2.2).put 0 p9
    have tx9 : Touch (fun k => k = y) (w2.setCell ⟨x, 0, none⟩ p6) ((w2.setCell ⟨x, 0, none⟩ p6).setCell ⟨y, 0, none⟩ p9) := Touch.put (S := fun k => k = y) rfl _ _
    have bx9 := bx9.touch tx9 (fun e => HXB.out.2.2 e.symm)
    have tt := (ty9.mono (fun k hk => (.inl hk : k = x ∨ k = y))).trans (tx9.mono (fun k hk => .inr hk))
    rw [← q2] at bx9 by9 tt
    have lx := HXB.out.1.below q1.bel
    have ly := HXB.out.2.1.below q1.bel
    have HP := Veil.mk (And.intro (own_monoB (own_xy q1.r1 lx ly (by decide) (by decide) tt) HWS.out) (own_monoB (own_xy q1.r2 lx ly (by decide) (by decide) tt) HWS.out))
    have tw : Touch (fun k => k = x ∨ k = y) WD w9 := (Touch.of_below q1.bel).trans tt
    have bw : Below A WD w9 := tw.below HBD2.out (fun k hk => by have := HGE.out; omega)
    have HPQ := Veil.mk (And.intro (HPB.out.1.touch tw (fun e => e.elim HPB.out.2.1 HPB.out.2.2)) HPB.out.2)
    have HSQ := Veil.mk (And.intro (HSB.out.1.touch tw (fun e => e.elim HSB.out.2.1 HSB.out.2.2)) HSB.out.2)
    have HXQ := Veil.mk (And.intro bx9 (And.intro by9 HXB.out.2.2))
    have HB := Veil.mk (HBD.out.trans bw)
    have HTW := Veil.mk (HTW.out.drew'.trans2 HWD.out tw)
    clear hJ hD2 q1 q2 bx9 ty9 by9 tx9 tt lx ly tw bw
    simp only [puts, setAll, List.set_cons_zero, List.set_cons_succ, List.setIfInBounds_toArray]
    go_upto_region 2 with (fail)
    obtain ⟨W, hW⟩ : ∃ W, w9 = W := ⟨_, rfl⟩
    rw [hW] at HPQ HSQ HXQ HB HTW HP  ⊢
    clear hW
    obtain ⟨WD, hWD⟩ : ∃ WD, W.drew = WD := ⟨_, rfl⟩
    have HBD : Veil (Below A w WD) := ⟨by rw [← hWD]; exact HB.out.drew⟩
    have HBD2 : Veil (A ≤ WD.heap.size) := ⟨by have := HBD.out.size; have := HAW.out; omega⟩
    have HPB : Veil (Box WD pb 73 #[.int .i64 r, .pointer (some ⟨x, 0, none⟩), .pointer (some ⟨y, 0, none⟩)] ∧ pb ≠ x ∧ pb ≠ y) := ⟨by rw [← hWD]; exact HPQ.out.1.drew, HPQ.out.2⟩
    have HSB : Veil (Box WD sb 48 #[.int .i64 k, .slice sa1 L.length sc1, .slice sa2 T.length sc2, .slice sa3 G.length sc3, .int .i64 nn] ∧ sb ≠ x ∧ sb ≠ y) := ⟨by rw [← hWD]; exact HSQ.out.1.drew, HSQ.out.2⟩
    have HXB : Veil (Box WD x 30 #[p6, .slice none 0 0, .slice none 0 0, ev] ∧ Box WD y 71 #[p9, .slice none 0 0, .slice none 0 0, ev] ∧ y ≠ x) := ⟨by rw [← hWD]; exact HXQ.out.1.drew, by rw [← hWD]; exact HXQ.out.2.1.drew, HXQ.out.2.2⟩
    have HWS : Veil (w.heap.size ≤ WD.heap.size) := ⟨by have := HTW.out.size; rw [← hWD]; exact this⟩
    have HPD := Veil.mk (show _ ∧ _ from ⟨own_drew HP.out.1, own_drew HP.out.2⟩)
    rw [hWD] at HPD
    have HWD := Veil.mk hWD
    clear hWD
    refine wp_region_chain ([some (· = .pointer (some ⟨pb, 1, none⟩)), some (· = .pointer (some ⟨x, 0, none⟩)), some (· = .pointer (some ⟨pb, 2, none⟩)), some (· = .pointer (some ⟨y, 0, none⟩)), some (· = .pointer (some ⟨sb, 2, none⟩)), some (· = (.slice sa2 T.length sc2)), none, some (· = .pointer (some ⟨sb, 2, none⟩)), some (· = (.slice sa2 T.length sc2)), none, some (· = .pointer (some ⟨x, 0, none⟩)), some (· = .pointer (some ⟨x, 1, none⟩)), none, some (· = .pointer (some ⟨y, 0, none⟩)), some (· = .pointer (some ⟨y, 1, none⟩)), none] : List (Option (Value → Prop))) (LPh [6, 9, 12, 15] (FlSt WD x y 1 32 2 T.length (flat2 T))) [some 18, some 19, some 20, some 21, some 22, some 23, some 24, some 25, some 26, some 27, some 28, some 29, none, some 30, some 31, none] (curV' _ [some 18, some 19, some 20, some 21, some 22, some 23, some 24, some 25, some 26, some 27, some 28, some 29, none, some 30, some 31, none]) (by kernel_rfl) rfl rfl (puts_cur _ _) (LPh.start (show W.drew = WD from HWD.out)) ?_ (by kernel_rfl) ?_
    · refine Steps.cons rfl (fun bb aa w' hbs hb0 hbp hI K hK => ?_) ?_
      · obtain ⟨us, hus, ha, hI⟩ := hI
        obtain ⟨u0, u1, u2, u3, u4, u5, u6, u7, u8, u9, u10, u11, u12, u13, u14, u15, rfl⟩ := len16 hus
        have HI := Veil.mk hI
        clear hI
        rw [ha]
        simp only [puts, setAll, List.setIfInBounds_toArray, List.set_cons_zero, List.set_cons_succ]
        go_simp
        exact hK _ _ (chain_step HI.out hus hbs 0 _ (by show 0 < 16; decide) rfl hbp (val_of rfl rfl) (HI.out.ph.step 0 _ (by decide) (by decide)) (by simp only [puts, setAll, List.set_cons_zero, List.set_cons_succ, List.setIfInBounds_toArray]))
      refine Steps.cons rfl (fun bb aa w' hbs hb0 hbp hI K hK => ?_) ?_
      · obtain ⟨us, hus, ha, hI⟩ := hI
        obtain ⟨u0, u1, u2, u3, u4, u5, u6, u7, u8, u9, u10, u11, u12, u13, u14, u15, rfl⟩ := len16 hus
        have e0 : u0 = .pointer (some ⟨pb, 1, none⟩) := hI.val 0 _ rfl (gen_after 0 (by kernel_rfl) hbp)
        subst e0
        have c0 : w'.cell? ⟨pb, 1, none⟩ = some (.pointer (some ⟨x, 0, none⟩)) := (hI.ph.any (fun w => Box w pb 73 _) (fun s f w h => h.box HPB.out.1 HPB.out.2.1 HPB.out.2.2)).at_ 1
        have HI := Veil.mk hI
        clear hI
        rw [ha]
        simp only [puts, setAll, List.setIfInBounds_toArray, List.set_cons_zero, List.set_cons_succ]
        go_simp
        exact hK _ _ (chain_step HI.out hus hbs 1 _ (by show 1 < 16; decide) rfl hbp (val_of rfl rfl) (HI.out.ph.step 1 _ (by decide) (by decide)) (by simp only [puts, setAll, List.set_cons_zero, List.set_cons_succ, List.setIfInBounds_toArray]))
      refine Steps.cons rfl (fun bb aa w' hbs hb0 hbp hI K hK => ?_) ?_
      · obtain ⟨us, hus, ha, hI⟩ := hI
        obtain ⟨u0, u1, u2, u3, u4, u5, u6, u7, u8, u9, u10, u11, u12, u13, u14, u15, rfl⟩ := len16 hus
        have HI := Veil.mk hI
        clear hI
        rw [ha]
        simp only [puts, setAll, List.setIfInBounds_toArray, List.set_cons_zero, List.set_cons_succ]
        go_simp
        exact hK _ _ (chain_step HI.out hus hbs 2 _ (by show 2 < 16; decide) rfl hbp (val_of rfl rfl) (HI.out.ph.step 2 _ (by decide) (by decide)) (by simp only [puts, setAll, List.set_cons_zero, List.set_cons_succ, List.setIfInBounds_toArray]))
      refine Steps.cons rfl (fun bb aa w' hbs hb0 hbp hI K hK => ?_) ?_
      · obtain ⟨us, hus, ha, hI⟩ := hI
        obtain ⟨u0, u1, u2, u3, u4, u5, u6, u7, u8, u9, u10, u11, u12, u13, u14, u15, rfl⟩ := len16 hus
        have e2 : u2 = .pointer (some ⟨pb, 2, none⟩) := hI.val 2 _ rfl (gen_after 2 (by kernel_rfl) hbp)
        subst e2
        have c0 : w'.cell? ⟨pb, 2, none⟩ = some (.pointer (some ⟨y, 0, none⟩)) := (hI.ph.any (fun w => Box w pb 73 _) (fun s f w h => h.box HPB.out.1 HPB.out.2.1 HPB.out.2.2)).at_ 2
        have HI := Veil.mk hI
        clear hI
        rw [ha]
        simp only [puts, setAll, List.setIfInBounds_toArray, List.set_cons_zero, List.set_cons_succ]
        go_simp
        exact hK _ _ (chain_step HI.out hus hbs 3 _ (by show 3 < 16; decide) rfl hbp (val_of rfl rfl) (HI.out.ph.step 3 _ (by decide) (by decide)) (by simp only [puts, setAll, List.set_cons_zero, List.set_cons_succ, List.setIfInBounds_toArray]))
      refine Steps.cons rfl (fun bb aa w' hbs hb0 hbp hI K hK => ?_) ?_
      · obtain ⟨us, hus, ha, hI⟩ := hI
        obtain ⟨u0, u1, u2, u3, u4, u5, u6, u7, u8, u9, u10, u11, u12, u13, u14, u15, rfl⟩ := len16 hus
        have HI := Veil.mk hI
        clear hI
        rw [ha]
        simp only [puts, setAll, List.setIfInBounds_toArray, List.set_cons_zero, List.set_cons_succ]
        go_simp
        exact hK _ _ (chain_step HI.out hus hbs 4 _ (by show 4 < 16; decide) rfl hbp (val_of rfl rfl) (HI.out.ph.step 4 _ (by decide) (by decide)) (by simp only [puts, setAll, List.set_cons_zero, List.set_cons_succ, List.setIfInBounds_toArray]))
      refine Steps.cons rfl (fun bb aa w' hbs hb0 hbp hI K hK => ?_) ?_
      · obtain ⟨us, hus, ha, hI⟩ := hI
        obtain ⟨u0, u1, u2, u3, u4, u5, u6, u7, u8, u9, u10, u11, u12, u13, u14, u15, rfl⟩ := len16 hus
        have e4 : u4 = .pointer (some ⟨sb, 2, none⟩) := hI.val 4 _ rfl (gen_after 4 (by kernel_rfl) hbp)
        subst e4
        have c0 : w'.cell? ⟨sb, 2, none⟩ = some (.slice sa2 T.length sc2) := (hI.ph.any (fun w => Box w sb 48 _) (fun s f w h => h.box HSB.out.1 HSB.out.2.1 HSB.out.2.2)).at_ 2
        have HI := Veil.mk hI
        clear hI
        rw [ha]
        simp only [puts, setAll, List.setIfInBounds_toArray, List.set_cons_zero, List.set_cons_succ]
        go_simp
        exact hK _ _ (chain_step HI.out hus hbs 5 _ (by show 5 < 16; decide) rfl hbp (val_of rfl rfl) (HI.out.ph.step 5 _ (by decide) (by decide)) (by simp only [puts, setAll, List.set_cons_zero, List.set_cons_succ, List.setIfInBounds_toArray]))
      refine Steps.cons rfl (fun bb aa w' hbs hb0 hbp hI K hK => ?_) ?_
      · obtain ⟨us, hus, ha, hI⟩ := hI
        obtain ⟨u0, u1, u2, u3, u4, u5, u6, u7, u8, u9, u10, u11, u12, u13, u14, u15, rfl⟩ := len16 hus
        have e5 : u5 = (.slice sa2 T.length sc2) := hI.val 5 _ rfl (gen_after 5 (by kernel_rfl) hbp)
        subst e5
        have hst := hI.ph.at_ 0 6 rfl hb0 (.inl rfl)
        have HBA : Below A w w' := by rw [show w' = WD from hst]; exact HBD.out
        have HST := Veil.mk (show w' = WD from hst)
        have HI := Veil.mk hI
        clear hI
        rw [ha]
        simp only [puts, setAll, List.setIfInBounds_toArray, List.set_cons_zero, List.set_cons_succ]
        refine wp_append_nil w' (.const (.slice none 0 0)) (.tmp 23) 28 rfl 32 i1 (.agg #[.int .i64 0, .int .i64 0]) 2 16 Try.underlying28 hj hy0 hy1 hy2 rfl (by decide) A T.length (.slice sa2 T.length sc2) (flat2 T) (by simp [Act.eval]) (by simp [Act.eval]) (HR2.out.on HBA) (flat2_one T) (by unfold maxLen; omega) (by omega) ?_
        intro v9 w9 hb9 ho9
        exact hK _ _ (chain_step HI.out hus hbs 6 v9 (by show 6 < 16; decide) rfl hbp (none_of rfl) (HI.out.ph.next 0 6 _ rfl hb0 (.inl rfl) (by decide) ⟨by rw [← HST.out]; exact hb9, by rw [← HST.out]; exact ho9⟩) (by simp only [Act.put, puts, setAll, List.set_cons_zero, List.set_cons_succ, List.setIfInBounds_toArray]))
      refine Steps.cons rfl (fun bb aa w' hbs hb0 hbp hI K hK => ?_) ?_
      · obtain ⟨us, hus, ha, hI⟩ := hI
        obtain ⟨u0, u1, u2, u3, u4, u5, u6, u7, u8, u9, u10, u11, u12, u13, u14, u15, rfl⟩ := len16 hus
        have HI := Veil.mk hI
        clear hI
        rw [ha]
        simp only [puts, setAll, List.setIfInBounds_toArray, List.set_cons_zero, List.set_cons_succ]
        go_simp
        exact hK _ _ (chain_step HI.out hus hbs 7 _ (by show 7 < 16; decide) rfl hbp (val_of rfl rfl) (HI.out.ph.step 7 _ (by decide) (by decide)) (by simp only [puts, setAll, List.set_cons_zero, List.set_cons_succ, List.setIfInBounds_toArray]))
      refine Steps.cons rfl (fun bb aa w' hbs hb0 hbp hI K hK => ?_) ?_
      · obtain ⟨us, hus, ha, hI⟩ := hI
        obtain ⟨u0, u1, u2, u3, u4, u5, u6, u7, u8, u9, u10, u11, u12, u13, u14, u15, rfl⟩ := len16 hus
        have e7 : u7 = .pointer (some ⟨sb, 2, none⟩) := hI.val 7 _ rfl (gen_after 7 (by kernel_rfl) hbp)
        subst e7
        have c0 : w'.cell? ⟨sb, 2, none⟩ = some (.slice sa2 T.length sc2) := (hI.ph.any (fun w => Box w sb 48 _) (fun s f w h => h.box HSB.out.1 HSB.out.2.1 HSB.out.2.2)).at_ 2
        have HI := Veil.mk hI
        clear hI
        rw [ha]
        simp only [puts, setAll, List.setIfInBounds_toArray, List.set_cons_zero, List.set_cons_succ]
        go_simp
        exact hK _ _ (chain_step HI.out hus hbs 8 _ (by show 8 < 16; decide) rfl hbp (val_of rfl rfl) (HI.out.ph.step 8 _ (by decide) (by decide)) (by simp only [puts, setAll, List.set_cons_zero, List.set_cons_succ, List.setIfInBounds_toArray]))
      refine Steps.cons rfl (fun bb aa w' hbs hb0 hbp hI K hK => ?_) ?_
      · obtain ⟨us, hus, ha, hI⟩ := hI
        obtain ⟨u0, u1, u2, u3, u4, u5, u6, u7, u8, u9, u10, u11, u12, u13, u14, u15, rfl⟩ := len16 hus
        have e8 : u8 = (.slice sa2 T.length sc2) := hI.val 8 _ rfl (gen_after 8 (by kernel_rfl) hbp)
        subst e8
        have hst := hI.ph.at_ 1 9 rfl hb0 (.inr ⟨6, rfl, gen_after 6 (by kernel_rfl) hbp⟩)
        obtain ⟨q1, q2⟩ := hst
        have HBA : Below A w w' := HBD.out.trans (q1.mono HBD2.out)
        have HST := Veil.mk (And.intro q1 q2)
        clear q1 q2
        have HI := Veil.mk hI
        clear hI
        rw [ha]
        simp only [puts, setAll, List.setIfInBounds_toArray, List.set_cons_zero, List.set_cons_succ]
        refine wp_append_nil w' (.const (.slice none 0 0)) (.tmp 26) 28 rfl 32 i1 (.agg #[.int .i64 0, .int .i64 0]) 2 16 Try.underlying28 hj hy0 hy1 hy2 rfl (by decide) A T.length (.slice sa2 T.length sc2) (flat2 T) (by simp [Act.eval]) (by simp [Act.eval]) (HR2.out.on HBA) (flat2_one T) (by unfold maxLen; omega) (by omega) ?_
        intro v9 w9 hb9 ho9
        exact hK _ _ (chain_step HI.out hus hbs 9 v9 (by show 9 < 16; decide) rfl hbp (none_of rfl) (HI.out.ph.next 1 9 _ rfl hb0 (.inr ⟨6, rfl, gen_after 6 (by kernel_rfl) hbp⟩) (by decide) (FlA.of HST.out.1 HST.out.2 hb9 ho9)) (by simp only [Act.put, puts, setAll, List.set_cons_zero, List.set_cons_succ, List.setIfInBounds_toArray]))
      refine Steps.cons rfl (fun bb aa w' hbs hb0 hbp hI K hK => ?_) ?_
      · obtain ⟨us, hus, ha, hI⟩ := hI
        obtain ⟨u0, u1, u2, u3, u4, u5, u6, u7, u8, u9, u10, u11, u12, u13, u14, u15, rfl⟩ := len16 hus
        have e1 : u1 = .pointer (some ⟨x, 0, none⟩) := hI.val 1 _ rfl (gen_after 1 (by kernel_rfl) hbp)
        subst e1
        have HI := Veil.mk hI
        clear hI
        rw [ha]
        simp only [puts, setAll, List.setIfInBounds_toArray, List.set_cons_zero, List.set_cons_succ]
        go_simp
        exact hK _ _ (chain_step HI.out hus hbs 10 _ (by show 10 < 16; decide) rfl hbp (val_of rfl rfl) (HI.out.ph.step 10 _ (by decide) (by decide)) (by simp only [puts, setAll, List.set_cons_zero, List.set_cons_succ, List.setIfInBounds_toArray]))
      refine Steps.cons rfl (fun bb aa w' hbs hb0 hbp hI K hK => ?_) ?_
      · obtain ⟨us, hus, ha, hI⟩ := hI
        obtain ⟨u0, u1, u2, u3, u4, u5, u6, u7, u8, u9, u10, u11, u12, u13, u14, u15, rfl⟩ := len16 hus
        have e10 : u10 = .pointer (some ⟨x, 0, none⟩) := hI.val 10 _ rfl (gen_after 10 (by kernel_rfl) hbp)
        subst e10
        have HI := Veil.mk hI
        clear hI
        rw [ha]
        simp only [puts, setAll, List.setIfInBounds_toArray, List.set_cons_zero, List.set_cons_succ]
        go_simp
        exact hK _ _ (chain_step HI.out hus hbs 11 _ (by show 11 < 16; decide) rfl hbp (val_of rfl rfl) (HI.out.ph.step 11 _ (by decide) (by decide)) (by simp only [puts, setAll, List.set_cons_zero, List.set_cons_succ, List.setIfInBounds_toArray]))
      refine Steps.cons rfl (fun bb aa w' hbs hb0 hbp hI K hK => ?_) ?_
      · obtain ⟨us, hus, ha, hI⟩ := hI
        obtain ⟨u0, u1, u2, u3, u4, u5, u6, u7, u8, u9, u10, u11, u12, u13, u14, u15, rfl⟩ := len16 hus
        have e11 : u11 = .pointer (some ⟨x, 1, none⟩) := hI.val 11 _ rfl (gen_after 11 (by kernel_rfl) hbp)
        subst e11
        have hst := hI.ph.at_ 2 12 rfl hb0 (.inr ⟨9, rfl, gen_after 9 (by kernel_rfl) hbp⟩)
        replace hst : FlA WD 32 2 T.length (flat2 T) u6 u9 w' := hst
        have HST := Veil.mk hst
        have bq := HXB.out.1.below hst.bel
        obtain ⟨ao6, cp6, e6, -⟩ := slice_own hst.r1
        subst e6
        have c0 : ∃ u, w'.cell? ⟨x, 1, none⟩ = some u := ⟨_, bq.at_ 1⟩
        obtain ⟨u99, c0⟩ := c0
        have c0f := bq.free 1
        clear hst bq
        have HI := Veil.mk hI
        clear hI
        rw [ha]
        simp only [puts, setAll, List.setIfInBounds_toArray, List.set_cons_zero, List.set_cons_succ]
        go_simp
        exact hK _ _ (chain_step HI.out hus hbs 12 undef (by show 12 < 16; decide) rfl hbp (none_of rfl) (HI.out.ph.next 2 12 _ rfl hb0 (.inr ⟨9, rfl, gen_after 9 (by kernel_rfl) hbp⟩) (by decide) ⟨w', HST.out, rfl⟩) (by simp only [puts, setAll, List.set_cons_zero, List.set_cons_succ, List.setIfInBounds_toArray]))
      refine Steps.cons rfl (fun bb aa w' hbs hb0 hbp hI K hK => ?_) ?_
      · obtain ⟨us, hus, ha, hI⟩ := hI
        obtain ⟨u0, u1, u2, u3, u4, u5, u6, u7, u8, u9, u10, u11, u12, u13, u14, u15, rfl⟩ := len16 hus
        have e3 : u3 = .pointer (some ⟨y, 0, none⟩) := hI.val 3 _ rfl (gen_after 3 (by kernel_rfl) hbp)
        subst e3
        have HI := Veil.mk hI
        clear hI
        rw [ha]
        simp only [puts, setAll, List.setIfInBounds_toArray, List.set_cons_zero, List.set_cons_succ]
        go_simp
        exact hK _ _ (chain_step HI.out hus hbs 13 _ (by show 13 < 16; decide) rfl hbp (val_of rfl rfl) (HI.out.ph.step 13 _ (by decide) (by decide)) (by simp only [puts, setAll, List.set_cons_zero, List.set_cons_succ, List.setIfInBounds_toArray]))
      refine Steps.cons rfl (fun bb aa w' hbs hb0 hbp hI K hK => ?_) ?_
      · obtain ⟨us, hus, ha, hI⟩ := hI
        obtain ⟨u0, u1, u2, u3, u4, u5, u6, u7, u8, u9, u10, u11, u12, u13, u14, u15, rfl⟩ := len16 hus
        have e13 : u13 = .pointer (some ⟨y, 0, none⟩) := hI.val 13 _ rfl (gen_after 13 (by kernel_rfl) hbp)
        subst e13
        have HI := Veil.mk hI
        clear hI
        rw [ha]
        simp only [puts, setAll, List.setIfInBounds_toArray, List.set_cons_zero, List.set_cons_succ]
        go_simp
        exact hK _ _ (chain_step HI.out hus hbs 14 _ (by show 14 < 16; decide) rfl hbp (val_of rfl rfl) (HI.out.ph.step 14 _ (by decide) (by decide)) (by simp only [puts, setAll, List.set_cons_zero, List.set_cons_succ, List.setIfInBounds_toArray]))
      refine Steps.cons rfl (fun bb aa w' hbs hb0 hbp hI K hK => ?_) ?_
      · obtain ⟨us, hus, ha, hI⟩ := hI
        obtain ⟨u0, u1, u2, u3, u4, u5, u6, u7, u8, u9, u10, u11, u12, u13, u14, u15, rfl⟩ := len16 hus
        have e14 : u14 = .pointer (some ⟨y, 1, none⟩) := hI.val 14 _ rfl (gen_after 14 (by kernel_rfl) hbp)
        subst e14
        have hst := hI.ph.at_ 3 15 rfl hb0 (.inr ⟨12, rfl, gen_after 12 (by kernel_rfl) hbp⟩)
        obtain ⟨w2, q1, q2⟩ := hst
        replace q1 : FlA WD 32 2 T.length (flat2 T) u6 u9 w2 := q1
        replace q2 : w' = w2.setCell ⟨x, 1, none⟩ u6 := q2
        have HST := Veil.mk (And.intro q1 q2)
        have bq := HXB.out.2.1.below q1.bel
        have bq2 : Box w' y 71 #[p9, .slice none 0 0, .slice none 0 0, ev] := by rw [q2]; exact bq.touch (S := fun k => k = x) (Touch.put (S := fun k => k = x) rfl _ _) HXB.out.2.2
        obtain ⟨ao9, cp9, e9, -⟩ := slice_own q1.r2
        subst e9
        have c0 : ∃ u, w'.cell? ⟨y, 1, none⟩ = some u := ⟨_, bq2.at_ 1⟩
        obtain ⟨u99, c0⟩ := c0
        have c0f := bq2.free 1
        clear q1 q2 bq bq2
        have HI := Veil.mk hI
        clear hI
        rw [ha]
        simp only [puts, setAll, List.setIfInBounds_toArray, List.set_cons_zero, List.set_cons_succ]
        go_simp
        exact hK _ _ (chain_step HI.out hus hbs 15 undef (by show 15 < 16; decide) rfl hbp (none_of rfl) (HI.out.ph.next 3 15 _ rfl hb0 (.inr ⟨12, rfl, gen_after 12 (by kernel_rfl) hbp⟩) (by decide) ⟨w2, HST.out.1, congrArg (fun ww => World.setCell ww ⟨y, 1, none⟩ _) HST.out.2⟩) (by simp only [puts, setAll, List.set_cons_zero, List.set_cons_succ, List.setIfInBounds_toArray]))
      exact Steps.nil
    · intro us w9 hus dd hD2 hJ
      obtain ⟨q0, q1, q2, q3, q4, q5, q6, q7, q8, q9, q10, q11, q12, q13, q14, q15, rfl⟩ := len16 hus
      obtain ⟨w2, q1, q2⟩ := hJ.ph.all (fun c hc => hD2 c (by
        have : c = 6 ∨ c = 9 ∨ c = 12 ∨ c = 15 := by simpa using hc
        show c < 16
        omega))
      replace q1 : FlA WD 32 2 T.length (flat2 T) q6 q9 w2 := q1
      replace q2 : w9 = (w2.setCell ⟨x, 1, none⟩ q6).setCell ⟨y, 1, none⟩ q9 := q2
      have bx9 := (HXB.out.1.below q1.bel).put 1 q6
      have ty9 : Touch (fun k => k = x) w2 (w2.setCell ⟨x, 1, none⟩ q6) := Touch.put (S := fun k => k = x) rfl _ _
      have by9 := ((HXB.out.2.1.below q1.bel).touch ty9 HXB.out.2.2).put 1 q9
      have tx9 : Touch (fun k => k = y) (w2.setCell ⟨x, 1, none⟩ q6) ((w2.setCell ⟨x, 1, none⟩ q6).setCell ⟨y, 1, none⟩ q9) := Touch.put (S := fun k => k = y) rfl _ _
      have bx9 := bx9.touch tx9 (fun e => HXB.out.2.2 e.symm)
      have tt := (ty9.mono (fun k hk => (.inl hk : k = x ∨ k = y))).trans (tx9.mono (fun k hk => .inr hk))
      rw [← q2] at bx9 by9 tt
      have lx := HXB.out.1.below q1.bel
      have ly := HXB.out.2.1.below q1.bel
      have HQ := Veil.mk (And.intro (own_monoB (own_xy q1.r1 lx ly (by decide) (by decide) tt) HWS.out) (own_monoB (own_xy q1.r2 lx ly (by decide) (by decide) tt) HWS.out))
      have tw : Touch (fun k => k = x ∨ k = y) WD w9 := (Touch.of_below q1.bel).trans tt
      have bw : Below A WD w9 := tw.below HBD2.out (fun k hk => by have := HGE.out; omega)
      have HP := Veil.mk (And.intro (own_xy HPD.out.1 HXB.out.1 HXB.out.2.1 (by decide) (by decide) tw) (own_xy HPD.out.2 HXB.out.1 HXB.out.2.1 (by decide) (by decide) tw))
      have HPQ := Veil.mk (And.intro (HPB.out.1.touch tw (fun e => e.elim HPB.out.2.1 HPB.out.2.2)) HPB.out.2)
      have HSQ := Veil.mk (And.intro (HSB.out.1.touch tw (fun e => e.elim HSB.out.2.1 HSB.out.2.2)) HSB.out.2)
      have HXQ := Veil.mk (And.intro bx9 (And.intro by9 HXB.out.2.2))
      have HB := Veil.mk (HBD.out.trans bw)
      have HTW := Veil.mk (HTW.out.drew'.trans2 HWD.out tw)
      clear hJ hD2 q1 q2 bx9 ty9 by9 tx9 tt lx ly tw bw
      simp only [puts, setAll, List.set_cons_zero, List.set_cons_succ, List.setIfInBounds_toArray]
      go_upto_region 3 with (fail)
      obtain ⟨W, hW⟩ : ∃ W, w9 = W := ⟨_, rfl⟩
      rw [hW] at HPQ HSQ HXQ HB HTW HP HQ ⊢
      clear hW
      obtain ⟨WD, hWD⟩ : ∃ WD, W.drew = WD := ⟨_, rfl⟩
      have HBD : Veil (Below A w WD) := ⟨by rw [← hWD]; exact HB.out.drew⟩
      have HBD2 : Veil (A ≤ WD.heap.size) := ⟨by have := HBD.out.size; have := HAW.out; omega⟩
      have HPB : Veil (Box WD pb 73 #[.int .i64 r, .pointer (some ⟨x, 0, none⟩), .pointer (some ⟨y, 0, none⟩)] ∧ pb ≠ x ∧ pb ≠ y) := ⟨by rw [← hWD]; exact HPQ.out.1.drew, HPQ.out.2⟩
      have HSB : Veil (Box WD sb 48 #[.int .i64 k, .slice sa1 L.length sc1, .slice sa2 T.length sc2, .slice sa3 G.length sc3, .int .i64 nn] ∧ sb ≠ x ∧ sb ≠ y) := ⟨by rw [← hWD]; exact HSQ.out.1.drew, HSQ.out.2⟩
      have HXB : Veil (Box WD x 30 #[p6, q6, .slice none 0 0, ev] ∧ Box WD y 71 #[p9, q9, .slice none 0 0, ev] ∧ y ≠ x) := ⟨by rw [← hWD]; exact HXQ.out.1.drew, by rw [← hWD]; exact HXQ.out.2.1.drew, HXQ.out.2.2⟩
      have HWS : Veil (w.heap.size ≤ WD.heap.size) := ⟨by have := HTW.out.size; rw [← hWD]; exact this⟩
      have HPD := Veil.mk (show _ ∧ _ from ⟨own_drew HP.out.1, own_drew HP.out.2⟩)
      rw [hWD] at HPD
      have HQD := Veil.mk (show _ ∧ _ from ⟨own_drew HQ.out.1, own_drew HQ.out.2⟩)
      rw [hWD] at HQD
      have HWD := Veil.mk hWD
      clear hWD
      refine wp_region_chain ([some (· = .pointer (some ⟨pb, 1, none⟩)), some (· = .pointer (some ⟨x, 0, none⟩)), some (· = .pointer (some ⟨pb, 2, none⟩)), some (· = .pointer (some ⟨y, 0, none⟩)), some (· = .pointer (some ⟨sb, 3, none⟩)), some (· = (.slice sa3 G.length sc3)), none, some (· = .pointer (some ⟨sb, 3, none⟩)), some (· = (.slice sa3 G.length sc3)), none, some (· = .pointer (some ⟨x, 0, none⟩)), some (· = .pointer (some ⟨x, 2, none⟩)), none, some (· = .pointer (some ⟨y, 0, none⟩)), some (· = .pointer (some ⟨y, 2, none⟩)), none] : List (Option (Value → Prop))) (LPh [6, 9, 12, 15] (FlSt WD x y 2 3 1 G.length (intsV G))) [some 32, some 33, some 34, some 35, some 36, some 37, some 38, some 39, some 40, some 41, some 42, some 43, none, some 44, some 45, none] (curV' _ [some 32, some 33, some 34, some 35, some 36, some 37, some 38, some 39, some 40, some 41, some 42, some 43, none, some 44, some 45, none]) (by kernel_rfl) rfl rfl (puts_cur _ _) (LPh.start (show W.drew = WD from HWD.out)) ?_ (by kernel_rfl) ?_
      · refine Steps.cons rfl (fun bb aa w' hbs hb0 hbp hI K hK => ?_) ?_
        · obtain ⟨us, hus, ha, hI⟩ := hI
          obtain ⟨u0, u1, u2, u3, u4, u5, u6, u7, u8, u9, u10, u11, u12, u13, u14, u15, rfl⟩ := len16 hus
          have HI := Veil.mk hI
          clear hI
          rw [ha]
          simp only [puts, setAll, List.setIfInBounds_toArray, List.set_cons_zero, List.set_cons_succ]
          go_simp
          exact hK _ _ (chain_step HI.out hus hbs 0 _ (by show 0 < 16; decide) rfl hbp (val_of rfl rfl) (HI.out.ph.step 0 _ (by decide) (by decide)) (by simp only [puts, setAll, List.set_cons_zero, List.set_cons_succ, List.setIfInBounds_toArray]))
        refine Steps.cons rfl (fun bb aa w' hbs hb0 hbp hI K hK => ?_) ?_
        · obtain ⟨us, hus, ha, hI⟩ := hI
          obtain ⟨u0, u1, u2, u3, u4, u5, u6, u7, u8, u9, u10, u11, u12, u13, u14, u15, rfl⟩ := len16 hus
          have e0 : u0 = .pointer (some ⟨pb, 1, none⟩) := hI.val 0 _ rfl (gen_after 0 (by kernel_rfl) hbp)
          subst e0
          have c0 : w'.cell? ⟨pb, 1, none⟩ = some (.pointer (some ⟨x, 0, none⟩)) := (hI.ph.any (fun w => Box w pb 73 _) (fun s f w h => h.box HPB.out.1 HPB.out.2.1 HPB.out.2.2)).at_ 1
          have HI := Veil.mk hI
          clear hI
          rw [ha]
          simp only [puts, setAll, List.setIfInBounds_toArray, List.set_cons_zero, List.set_cons_succ]
          go_simp
          exact hK _ _ (chain_step HI.out hus hbs 1 _ (by show 1 < 16; decide) rfl hbp (val_of rfl rfl) (HI.out.ph.step 1 _ (by decide) (by decide)) (by simp only [puts, setAll, List.set_cons_zero, List.set_cons_succ, List.setIfInBounds_toArray]))
        refine Steps.cons rfl (fun bb aa w' hbs hb0 hbp hI K hK => ?_) ?_
        · obtain ⟨us, hus, ha, hI⟩ := hI
          obtain ⟨u0, u1, u2, u3, u4, u5, u6, u7, u8, u9, u10, u11, u12, u13, u14, u15, rfl⟩ := len16 hus
          have HI := Veil.mk hI
          clear hI
          rw [ha]
          simp only [puts, setAll, List.setIfInBounds_toArray, List.set_cons_zero, List.set_cons_succ]
          go_simp
          exact hK _ _ (chain_step HI.out hus hbs 2 _ (by show 2 < 16; decide) rfl hbp (val_of rfl rfl) (HI.out.ph.step 2 _ (by decide) (by decide)) (by simp only [puts, setAll, List.set_cons_zero, List.set_cons_succ, List.setIfInBounds_toArray]))
        refine Steps.cons rfl (fun bb aa w' hbs hb0 hbp hI K hK => ?_) ?_
        · obtain ⟨us, hus, ha, hI⟩ := hI
          obtain ⟨u0, u1, u2, u3, u4, u5, u6, u7, u8, u9, u10, u11, u12, u13, u14, u15, rfl⟩ := len16 hus
          have e2 : u2 = .pointer (some ⟨pb, 2, none⟩) := hI.val 2 _ rfl (gen_after 2 (by kernel_rfl) hbp)
          subst e2
          have c0 : w'.cell? ⟨pb, 2, none⟩ = some (.pointer (some ⟨y, 0, none⟩)) := (hI.ph.any (fun w => Box w pb 73 _) (fun s f w h => h.box HPB.out.1 HPB.out.2.1 HPB.out.2.2)).at_ 2
          have HI := Veil.mk hI
          clear hI
          rw [ha]
          simp only [puts, setAll, List.setIfInBounds_toArray, List.set_cons_zero, List.set_cons_succ]
          go_simp
          exact hK _ _ (chain_step HI.out hus hbs 3 _ (by show 3 < 16; decide) rfl hbp (val_of rfl rfl) (HI.out.ph.step 3 _ (by decide) (by decide)) (by simp only [puts, setAll, List.set_cons_zero, List.set_cons_succ, List.setIfInBounds_toArray]))
        refine Steps.cons rfl (fun bb aa w' hbs hb0 hbp hI K hK => ?_) ?_
        · obtain ⟨us, hus, ha, hI⟩ := hI
          obtain ⟨u0, u1, u2, u3, u4, u5, u6, u7, u8, u9, u10, u11, u12, u13, u14, u15, rfl⟩ := len16 hus
          have HI := Veil.mk hI
          clear hI
          rw [ha]
          simp only [puts, setAll, List.setIfInBounds_toArray, List.set_cons_zero, List.set_cons_succ]
          go_simp
          exact hK _ _ (chain_step HI.out hus hbs 4 _ (by show 4 < 16; decide) rfl hbp (val_of rfl rfl) (HI.out.ph.step 4 _ (by decide) (by decide)) (by simp only [puts, setAll, List.set_cons_zero, List.set_cons_succ, List.setIfInBounds_toArray]))
        refine Steps.cons rfl (fun bb aa w' hbs hb0 hbp hI K hK => ?_) ?_
        · obtain ⟨us, hus, ha, hI⟩ := hI
          obtain ⟨u0, u1, u2, u3, u4, u5, u6, u7, u8, u9, u10, u11, u12, u13, u14, u15, rfl⟩ := len16 hus
          have e4 : u4 = .pointer (some ⟨sb, 3, none⟩) := hI.val 4 _ rfl (gen_after 4 (by kernel_rfl) hbp)
          subst e4
          have c0 : w'.cell? ⟨sb, 3, none⟩ = some (.slice sa3 G.length sc3) := (hI.ph.any (fun w => Box w sb 48 _) (fun s f w h => h.box HSB.out.1 HSB.out.2.1 HSB.out.2.2)).at_ 3
          have HI := Veil.mk hI
          clear hI
          rw [ha]
          simp only [puts, setAll, List.setIfInBounds_toArray, List.set_cons_zero, List.set_cons_succ]
          go_simp
          exact hK _ _ (chain_step HI.out hus hbs 5 _ (by show 5 < 16; decide) rfl hbp (val_of rfl rfl) (HI.out.ph.step 5 _ (by decide) (by decide)) (by simp only [puts, setAll, List.set_cons_zero, List.set_cons_succ, List.setIfInBounds_toArray]))
        refine Steps.cons rfl (fun bb aa w' hbs hb0 hbp hI K hK => ?_) ?_
        · obtain ⟨us, hus, ha, hI⟩ := hI
          obtain ⟨u0, u1, u2, u3, u4, u5, u6, u7, u8, u9, u10, u11, u12, u13, u14, u15, rfl⟩ := len16 hus
          have e5 : u5 = (.slice sa3 G.length sc3) := hI.val 5 _ rfl (gen_after 5 (by kernel_rfl) hbp)
          subst e5
          have hst := hI.ph.at_ 0 6 rfl hb0 (.inl rfl)
          have HBA : Below A w w' := by rw [show w' = WD from hst]; exact HBD.out
          have HST := Veil.mk (show w' = WD from hst)
          have HI := Veil.mk hI
          clear hI
          rw [ha]
          simp only [puts, setAll, List.setIfInBounds_toArray, List.set_cons_zero, List.set_cons_succ]
          refine wp_append_nil w' (.const (.slice none 0 0)) (.tmp 37) 22 rfl 3 i0 (.int .i64 0) 1 8 Try.underlying22 hi hz0 hz1 hz2 rfl (by decide) A G.length (.slice sa3 G.length sc3) (intsV G) (by simp [Act.eval]) (by simp [Act.eval]) (HR3.out.on HBA) (intsV_one G) (by unfold maxLen; omega) (by omega) ?_
          intro v9 w9 hb9 ho9
          exact hK _ _ (chain_step HI.out hus hbs 6 v9 (by show 6 < 16; decide) rfl hbp (none_of rfl) (HI.out.ph.next 0 6 _ rfl hb0 (.inl rfl) (by decide) ⟨by rw [← HST.out]; exact hb9, by rw [← HST.out]; exact ho9⟩) (by simp only [Act.put, puts, setAll, List.set_cons_zero, List.set_cons_succ, List.setIfInBounds_toArray]))
        refine Steps.cons rfl (fun bb aa w' hbs hb0 hbp hI K hK => ?_) ?_
        · obtain ⟨us, hus, ha, hI⟩ := hI
          obtain ⟨u0, u1, u2, u3, u4, u5, u6, u7, u8, u9, u10, u11, u12, u13, u14, u15, rfl⟩ := len16 hus
          have HI := Veil.mk hI
          clear hI
          rw [ha]
          simp only [puts, setAll, List.setIfInBounds_toArray, List.set_cons_zero, List.set_cons_succ]
          go_simp
          exact hK _ _ (chain_step HI.out hus hbs 7 _ (by show 7 < 16; decide) rfl hbp (val_of rfl rfl) (HI.out.ph.step 7 _ (by decide) (by decide)) (by simp only [puts, setAll, List.set_cons_zero, List.set_cons_succ, List.setIfInBounds_toArray]))
        refine Steps.cons rfl (fun bb aa w' hbs hb0 hbp hI K hK => ?_) ?_
        · obtain ⟨us, hus, ha, hI⟩ := hI
          obtain ⟨u0, u1, u2, u3, u4, u5, u6, u7, u8, u9, u10, u11, u12, u13, u14, u15, rfl⟩ := len16 hus
          have e7 : u7 = .pointer (some ⟨sb, 3, none⟩) := hI.val 7 _ rfl (gen_after 7 (by kernel_rfl) hbp)
          subst e7
          have c0 : w'.cell? ⟨sb, 3, none⟩ = some (.slice sa3 G.length sc3) := (hI.ph.any (fun w => Box w sb 48 _) (fun s f w h => h.box HSB.out.1 HSB.out.2.1 HSB.out.2.2)).at_ 3
          have HI := Veil.mk hI
          clear hI
          rw [ha]
          simp only [puts, setAll, List.setIfInBounds_toArray, List.set_cons_zero, List.set_cons_succ]
          go_simp
          exact hK _ _ (chain_step HI.out hus hbs 8 _ (by show 8 < 16; decide) rfl hbp (val_of rfl rfl) (HI.out.ph.step 8 _ (by decide) (by decide)) (by simp only [puts, setAll, List.set_cons_zero, List.set_cons_succ, List.setIfInBounds_toArray]))
        refine Steps.cons rfl (fun bb aa w' hbs hb0 hbp hI K hK => ?_) ?_
        · obtain ⟨us, hus, ha, hI⟩ := hI
          obtain ⟨u0, u1, u2, u3, u4, u5, u6, u7, u8, u9, u10, u11, u12, u13, u14, u15, rfl⟩ := len16 hus
          have e8 : u8 = (.slice sa3 G.length sc3) := hI.val 8 _ rfl (gen_after 8 (by kernel_rfl) hbp)
          subst e8
          have hst := hI.ph.at_ 1 9 rfl hb0 (.inr ⟨6, rfl, gen_after 6 (by kernel_rfl) hbp⟩)
          obtain ⟨q1, q2⟩ := hst
          have HBA : Below A w w' := HBD.out.trans (q1.mono HBD2.out)
          have HST := Veil.mk (And.intro q1 q2)
          clear q1 q2
          have HI := Veil.mk hI
          clear hI
          rw [ha]
          simp only [puts, setAll, List.setIfInBounds_toArray, List.set_cons_zero, List.set_cons_succ]
          refine wp_append_nil w' (.const (.slice none 0 0)) (.tmp 40) 22 rfl 3 i0 (.int .i64 0) 1 8 Try.underlying22 hi hz0 hz1 hz2 rfl (by decide) A G.length (.slice sa3 G.length sc3) (intsV G) (by simp [Act.eval]) (by simp [Act.eval]) (HR3.out.on HBA) (intsV_one G) (by unfold maxLen; omega) (by omega) ?_
          intro v9 w9 hb9 ho9
          exact hK _ _ (chain_step HI.out hus hbs 9 v9 (by show 9 < 16; decide) rfl hbp (none_of rfl) (HI.out.ph.next 1 9 _ rfl hb0 (.inr ⟨6, rfl, gen_after 6 (by kernel_rfl) hbp⟩) (by decide) (FlA.of HST.out.1 HST.out.2 hb9 ho9)) (by simp only [Act.put, puts, setAll, List.set_cons_zero, List.set_cons_succ, List.setIfInBounds_toArray]))
        refine Steps.cons rfl (fun bb aa w' hbs hb0 hbp hI K hK => ?_) ?_
        · obtain ⟨us, hus, ha, hI⟩ := hI
          obtain ⟨u0, u1, u2, u3, u4, u5, u6, u7, u8, u9, u10, u11, u12, u13, u14, u15, rfl⟩ := len16 hus
          have e1 : u1 = .pointer (some ⟨x, 0, none⟩) := hI.val 1 _ rfl (gen_after 1 (by kernel_rfl) hbp)
          subst e1
          have HI := Veil.mk hI
          clear hI
          rw [ha]
          simp only [puts, setAll, List.setIfInBounds_toArray, List.set_cons_zero, List.set_cons_succ]
          go_simp
          exact hK _ _ (chain_step HI.out hus hbs 10 _ (by show 10 < 16; decide) rfl hbp (val_of rfl rfl) (HI.out.ph.step 10 _ (by decide) (by decide)) (by simp only [puts, setAll, List.set_cons_zero, List.set_cons_succ, List.setIfInBounds_toArray]))
        refine Steps.cons rfl (fun bb aa w' hbs hb0 hbp hI K hK => ?_) ?_
        · obtain ⟨us, hus, ha, hI⟩ := hI
          obtain ⟨u0, u1, u2, u3, u4, u5, u6, u7, u8, u9, u10, u11, u12, u13, u14, u15, rfl⟩ := len16 hus
          have e10 : u10 = .pointer (some ⟨x, 0, none⟩) := hI.val 10 _ rfl (gen_after 10 (by kernel_rfl) hbp)
          subst e10
          have HI := Veil.mk hI
          clear hI
          rw [ha]
          simp only [puts, setAll, List.setIfInBounds_toArray, List.set_cons_zero, List.set_cons_succ]
          go_simp
          exact hK _ _ (chain_step HI.out hus hbs 11 _ (by show 11 < 16; decide) rfl hbp (val_of rfl rfl) (HI.out.ph.step 11 _ (by decide) (by decide)) (by simp only [puts, setAll, List.set_cons_zero, List.set_cons_succ, List.setIfInBounds_toArray]))
        refine Steps.cons rfl (fun bb aa w' hbs hb0 hbp hI K hK => ?_) ?_
        · obtain ⟨us, hus, ha, hI⟩ := hI
          obtain ⟨u0, u1, u2, u3, u4, u5, u6, u7, u8, u9, u10, u11, u12, u13, u14, u15, rfl⟩ := len16 hus
          have e11 : u11 = .pointer (some ⟨x, 2, none⟩) := hI.val 11 _ rfl (gen_after 11 (by kernel_rfl) hbp)
          subst e11
          have hst := hI.ph.at_ 2 12 rfl hb0 (.inr ⟨9, rfl, gen_after 9 (by kernel_rfl) hbp⟩)
          replace hst : FlA WD 3 1 G.length (intsV G) u6 u9 w' := hst
          have HST := Veil.mk hst
          have bq := HXB.out.1.below hst.bel
          obtain ⟨ao6, cp6, e6, -⟩ := slice_own hst.r1
          subst e6
          have c0 : ∃ u, w'.cell? ⟨x, 2, none⟩ = some u := ⟨_, bq.at_ 2⟩
          obtain ⟨u99, c0⟩ := c0
          have c0f := bq.free 2
          clear hst bq
          have HI := Veil.mk hI
          clear hI
          rw [ha]
          simp only [puts, setAll, List.setIfInBounds_toArray, List.set_cons_zero, List.set_cons_succ]
          go_simp
          exact hK _ _ (chain_step HI.out hus hbs 12 undef (by show 12 < 16; decide) rfl hbp (none_of rfl) (HI.out.ph.next 2 12 _ rfl hb0 (.inr ⟨9, rfl, gen_after 9 (by kernel_rfl) hbp⟩) (by decide) ⟨w', HST.out, rfl⟩) (by simp only [puts, setAll, List.set_cons_zero, List.set_cons_succ, List.setIfInBounds_toArray]))
        refine Steps.cons rfl (fun bb aa w' hbs hb0 hbp hI K hK => ?_) ?_
        · obtain ⟨us, hus, ha, hI⟩ := hI
          obtain ⟨u0, u1, u2, u3, u4, u5, u6, u7, u8, u9, u10, u11, u12, u13, u14, u15, rfl⟩ := len16 hus
          have e3 : u3 = .pointer (some ⟨y, 0, none⟩) := hI.val 3 _ rfl (gen_after 3 (by kernel_rfl) hbp)
          subst e3
          have HI := Veil.mk hI
          clear hI
          rw [ha]
          simp only [puts, setAll, List.setIfInBounds_toArray, List.set_cons_zero, List.set_cons_succ]
          go_simp
          exact hK _ _ (chain_step HI.out hus hbs 13 _ (by show 13 < 16; decide) rfl hbp (val_of rfl rfl) (HI.out.ph.step 13 _ (by decide) (by decide)) (by simp only [puts, setAll, List.set_cons_zero, List.set_cons_succ, List.setIfInBounds_toArray]))
        refine Steps.cons rfl (fun bb aa w' hbs hb0 hbp hI K hK => ?_) ?_
        · obtain ⟨us, hus, ha, hI⟩ := hI
          obtain ⟨u0, u1, u2, u3, u4, u5, u6, u7, u8, u9, u10, u11, u12, u13, u14, u15, rfl⟩ := len16 hus
          have e13 : u13 = .pointer (some ⟨y, 0, none⟩) := hI.val 13 _ rfl (gen_after 13 (by kernel_rfl) hbp)
          subst e13
          have HI := Veil.mk hI
          clear hI
          rw [ha]
          simp only [puts, setAll, List.setIfInBounds_toArray, List.set_cons_zero, List.set_cons_succ]
          go_simp
          exact hK _ _ (chain_step HI.out hus hbs 14 _ (by show 14 < 16; decide) rfl hbp (val_of rfl rfl) (HI.out.ph.step 14 _ (by decide) (by decide)) (by simp only [puts, setAll, List.set_cons_zero, List.set_cons_succ, List.setIfInBounds_toArray]))
        refine Steps.cons rfl (fun bb aa w' hbs hb0 hbp hI K hK => ?_) ?_
        · obtain ⟨us, hus, ha, hI⟩ := hI
          obtain ⟨u0, u1, u2, u3, u4, u5, u6, u7, u8, u9, u10, u11, u12, u13, u14, u15, rfl⟩ := len16 hus
          have e14 : u14 = .pointer (some ⟨y, 2, none⟩) := hI.val 14 _ rfl (gen_after 14 (by kernel_rfl) hbp)
          subst e14
          have hst := hI.ph.at_ 3 15 rfl hb0 (.inr ⟨12, rfl, gen_after 12 (by kernel_rfl) hbp⟩)
          obtain ⟨w2, q1, q2⟩ := hst
          replace q1 : FlA WD 3 1 G.length (intsV G) u6 u9 w2 := q1
          replace q2 : w' = w2.setCell ⟨x, 2, none⟩ u6 := q2
          have HST := Veil.mk (And.intro q1 q2)
          have bq := HXB.out.2.1.below q1.bel
          have bq2 : Box w' y 71 #[p9, q9, .slice none 0 0, ev] := by rw [q2]; exact bq.touch (S := fun k => k = x) (Touch.put (S := fun k => k = x) rfl _ _) HXB.out.2.2
          obtain ⟨ao9, cp9, e9, -⟩ := slice_own q1.r2
          subst e9
          have c0 : ∃ u, w'.cell? ⟨y, 2, none⟩ = some u := ⟨_, bq2.at_ 2⟩
          obtain ⟨u99, c0⟩ := c0
          have c0f := bq2.free 2
          clear q1 q2 bq bq2
          have HI := Veil.mk hI
          clear hI
          rw [ha]
          simp only [puts, setAll, List.setIfInBounds_toArray, List.set_cons_zero, List.set_cons_succ]
          go_simp
          exact hK _ _ (chain_step HI.out hus hbs 15 undef (by show 15 < 16; decide) rfl hbp (none_of rfl) (HI.out.ph.next 3 15 _ rfl hb0 (.inr ⟨12, rfl, gen_after 12 (by kernel_rfl) hbp⟩) (by decide) ⟨w2, HST.out.1, congrArg (fun ww => World.setCell ww ⟨y, 2, none⟩ _) HST.out.2⟩) (by simp only [puts, setAll, List.set_cons_zero, List.set_cons_succ, List.setIfInBounds_toArray]))
        exact Steps.nil
      · intro us w9 hus dd hD2 hJ
        obtain ⟨z0, z1, z2, z3, z4, z5, z6, z7, z8, z9, z10, z11, z12, z13, z14, z15, rfl⟩ := len16 hus
        obtain ⟨w2, q1, q2⟩ := hJ.ph.all (fun c hc => hD2 c (by
          have : c = 6 ∨ c = 9 ∨ c = 12 ∨ c = 15 := by simpa using hc
          show c < 16
          omega))
        replace q1 : FlA WD 3 1 G.length (intsV G) z6 z9 w2 := q1
        replace q2 : w9 = (w2.setCell ⟨x, 2, none⟩ z6).setCell ⟨y, 2, none⟩ z9 := q2
        have bx9 := (HXB.out.1.below q1.bel).put 2 z6
        have ty9 : Touch (fun k => k = x) w2 (w2.setCell ⟨x, 2, none⟩ z6) := Touch.put (S := fun k => k = x) rfl _ _
        have by9 := ((HXB.out.2.1.below q1.bel).touch ty9 HXB.out.2.2).put 2 z9
        have tx9 : Touch (fun k => k = y) (w2.setCell ⟨x, 2, none⟩ z6) ((w2.setCell ⟨x, 2, none⟩ z6).setCell ⟨y, 2, none⟩ z9) := Touch.put (S := fun k => k = y) rfl _ _
        have bx9 := bx9.touch tx9 (fun e => HXB.out.2.2 e.symm)
        have tt := (ty9.mono (fun k hk => (.inl hk : k = x ∨ k = y))).trans (tx9.mono (fun k hk => .inr hk))
        rw [← q2] at bx9 by9 tt
        have lx := HXB.out.1.below q1.bel
        have ly := HXB.out.2.1.below q1.bel
        have HZ := Veil.mk (And.intro (own_monoB (own_xy q1.r1 lx ly (by decide) (by decide) tt) HWS.out) (own_monoB (own_xy q1.r2 lx ly (by decide) (by decide) tt) HWS.out))
        have tw : Touch (fun k => k = x ∨ k = y) WD w9 := (Touch.of_below q1.bel).trans tt
        have bw : Below A WD w9 := tw.below HBD2.out (fun k hk => by have := HGE.out; omega)
        have HP := Veil.mk (And.intro (own_xy HPD.out.1 HXB.out.1 HXB.out.2.1 (by decide) (by decide) tw) (own_xy HPD.out.2 HXB.out.1 HXB.out.2.1 (by decide) (by decide) tw))
        have HQ := Veil.mk (And.intro (own_xy HQD.out.1 HXB.out.1 HXB.out.2.1 (by decide) (by decide) tw) (own_xy HQD.out.2 HXB.out.1 HXB.out.2.1 (by decide) (by decide) tw))
        have hT := HTW.out.drew'.trans2 HWD.out tw
        have HE := Veil.mk (And.intro (HBD.out.trans bw) (And.intro hT (show Filled w.heap.size x y L T G ev (six p6 q6 z6 p9 q9 z9) w9 from ⟨bx9, by9, HP.out.1, HQ.out.1, HZ.out.1, HP.out.2, HQ.out.2, HZ.out.2⟩)))
        clear hJ hD2 q1 q2 bx9 ty9 by9 tx9 tt lx ly tw bw hT
        simp only [puts, setAll, List.set_cons_zero, List.set_cons_succ, List.setIfInBounds_toArray]
        go_wp2
        exact bodyPost_end (results_none rfl _ _ _) rfl ⟨rfl, HE.out.1, HE.out.2.1, _, HE.out.2.2⟩
end Go.Proofs.Ytkkbfadfgdjkdaa
