/- ArenaKeeps: a step that makes a cell. -/
import Derived.Test.YtkkbfadfgdjkdaaKf
import Derived.Test.YtkkbfadfgdjkdaaIh
namespace Go.Proofs.Ytkkbfadfgdjkdaa
open Go Go.RowKit

theorem len10 {α : Type} {us : List α} (h : us.length = 10) : ∃ a0 a1 a2 a3 a4 a5 a6 a7 a8 a9, us = [a0, a1, a2, a3, a4, a5, a6, a7, a8, a9] := by
  match us, h with
  | [a0, a1, a2, a3, a4, a5, a6, a7, a8, a9], _ => exact ⟨a0, a1, a2, a3, a4, a5, a6, a7, a8, a9, rfl⟩
theorem Try.infoPA : (Try.prog.info? 73).map (fun i => (i.zero, i.size, i.bytes)) = some (some (.agg #[.int .i64 0, .pointer none, .pointer none]), 3, 24) := by kernel_rfl
def R11St (A bb mb z : Nat) (ps : List PI) (p : PI) (pb : Nat) (xs ys : List Nat) (fv rv Lv lv : Value) (rr : Int) (WD : World) : Nat → (Nat → Value) → World → Prop
  | 0 => fun _ w => w = WD
  | 1 => fun f w => f 0 = .int .i64 rr ∧ ∃ cv, Below A WD w ∧ Mid A bb mb z ps p pb (xs ++ [p.x]) ys 0 cv fv rv Lv lv w
  | _ => fun _ w => ∃ cv, Below A WD w ∧ Mid A bb mb z ps p pb (xs ++ [p.x]) ys rr cv fv rv Lv lv w
def R12St (A bb mb z : Nat) (ps : List PI) (p : PI) (pb : Nat) (xs ys : List Nat) (cv fv rv lv : Value) (rr : Int) (WD : World) : Nat → (Nat → Value) → World → Prop
  | 0 => fun _ w => w = WD
  | _ => fun _ w => ∃ Lv, Below A WD w ∧ Mid A bb mb z ps p pb xs (ys ++ [p.y]) rr cv fv rv Lv lv w
theorem Filled.low {B B' x y : Nat} {L : List Int} {T : List (Int × Int)} {G : List Int} {ev : Value} {vs : Fin 6 → Value} {w : World} (h : Filled B x y L T G ev vs w) (hB : B' ≤ B) : Filled B' x y L T G ev vs w :=
  ⟨h.bx, h.by_, own_monoB h.r0 hB, own_monoB h.r1 hB, own_monoB h.r2 hB, own_monoB h.r3 hB, own_monoB h.r4 hB, own_monoB h.r5 hB⟩
theorem R12St.cell {A bb mb z : Nat} {ps : List PI} {p : PI} {pb : Nat} {xs ys : List Nat} {cv fv rv lv : Value} {rr : Int} {WD : World} {s : Nat} {f : Nat → Value} {w : World} (h : R12St A bb mb z ps p pb xs ys cv fv rv lv rr WD s f w) (h0 : WD.cell? ⟨pb, 0, none⟩ = some (.int .i64 rr)) : w.cell? ⟨pb, 0, none⟩ = some (.int .i64 rr) := by
  match s, h with
  | 0, h => rw [show w = WD from h]; exact h0
  | s + 1, h =>
    obtain ⟨Lv, _, hm⟩ := h
    exact hm.pbx.at_ 0
set_option maxHeartbeats 4000000 in
set_option maxRecDepth 100000 in
theorem play_any (A bb mb : Nat) (ps : List PI) (cv fv rv Lv lv : Value) (hl : ps.length < 200) (L : List Int) (T : List (Int × Int)) (G : List Int) (k nn : Int) (hk : k.tmod 5 = 0) (s1 s2 s3 : Value) (w : World) (h : KS A bb mb ps cv fv rv Lv lv w)
    (h1 : Rd w A s1 L.length 1 (intsV L)) (h2 : Rd w A s2 T.length 2 (flat2 T)) (h3 : Rd w A s3 G.length 1 (intsV G)) (hl1 : L.length ≤ 2000) (hl2 : T.length ≤ 2000) (hl3 : G.length ≤ 2000) (hwf : ∀ q ∈ T, -9223372036854775808 ≤ q.2 ∧ q.2 ≤ 9223372036854775807) :
    Calls Try.prog 16 #[.pointer (some ⟨bb, 0, none⟩), .agg #[.int .i64 k, s1, s2, s3, .int .i64 nn]] w fun e w' => (∃ v, e = .returned v) ∧ Below A w w' ∧ ∃ p cv' Lv' lv', KS A bb mb (ps ++ [p]) cv' fv rv Lv' lv' w' := by
  obtain ⟨iP, hiP, hP0, hP1, hP2⟩ := info_parts Try.infoPA
  have HKS := Veil.mk h
  have HR := Veil.mk (And.intro h1 (And.intro h2 (And.intro h3 hwf)))
  have hge := h.ge
  obtain ⟨_, sa1, sc1, es1, _⟩ := h1
  obtain ⟨_, sa2, sc2, es2, _⟩ := h2
  obtain ⟨_, sa3, sc3, es3, _⟩ := h3
  subst es1 es2 es3
  clear h
  go_enter Try.func16, Try.ntmps16
  go_upto_region 9 with (fail)
  obtain ⟨w1, hw1⟩ : ∃ w1, w.alloc (.cells #[.int .i64 k, .slice sa1 L.length sc1, .slice sa2 T.length sc2, .slice sa3 G.length sc3, .int .i64 nn] 48) = w1 := ⟨_, rfl⟩
  have bs := Box.new w 48 #[.int .i64 k, .slice sa1 L.length sc1, .slice sa2 T.length sc2, .slice sa3 G.length sc3, .int .i64 nn]
  have bb1 : Below w.heap.size w (w.alloc (.cells #[.int .i64 k, .slice sa1 L.length sc1, .slice sa2 T.length sc2, .slice sa3 G.length sc3, .int .i64 nn] 48)) := (Below.refl _ _).alloc (Nat.le_refl _) _
  have hz1 : w1.heap.size = w.heap.size + 1 := by rw [← hw1, World.size_alloc]
  rw [hw1] at bs bb1 ⊢
  obtain ⟨sb, hsb⟩ : ∃ sb, w.heap.size = sb := ⟨_, rfl⟩
  rw [hsb] at bs hz1 ⊢
  have HW1 := Veil.mk (And.intro hw1 (And.intro bb1 (And.intro hz1 hsb)))
  have HBS := Veil.mk bs
  clear hw1 bb1 hz1 hsb bs
  go_upto_region 10 with (fail)
  obtain ⟨hw1, bb1, hz1, hsb⟩ := HW1.out
  obtain ⟨x, hx⟩ : ∃ x, w1.heap.size = x := ⟨_, rfl⟩
  obtain ⟨y, hy⟩ : ∃ y, x + 1 = y := ⟨_, rfl⟩
  obtain ⟨pb, hpb⟩ : ∃ pb, y + 1 = pb := ⟨_, rfl⟩
  have bx := ((Box.new w1 30 #[.slice none 0 0, .slice none 0 0, .slice none 0 0, .int .i64 0]).more (.cells #[.slice none 0 0, .slice none 0 0, .slice none 0 0, .int .i64 0] 71)).more (.cells #[.int .i64 0, .pointer (some ⟨w1.heap.size, 0, none⟩), .pointer (some ⟨w1.heap.size + 1, 0, none⟩)] 73)
  have by_ := (Box.new (w1.alloc (.cells #[.slice none 0 0, .slice none 0 0, .slice none 0 0, .int .i64 0] 30)) 71 #[.slice none 0 0, .slice none 0 0, .slice none 0 0, .int .i64 0]).more (.cells #[.int .i64 0, .pointer (some ⟨w1.heap.size, 0, none⟩), .pointer (some ⟨w1.heap.size + 1, 0, none⟩)] 73)
  have bp := Box.new ((w1.alloc (.cells #[.slice none 0 0, .slice none 0 0, .slice none 0 0, .int .i64 0] 30)).alloc (.cells #[.slice none 0 0, .slice none 0 0, .slice none 0 0, .int .i64 0] 71)) 73 #[.int .i64 0, .pointer (some ⟨w1.heap.size, 0, none⟩), .pointer (some ⟨w1.heap.size + 1, 0, none⟩)]
  have b4 : Below w1.heap.size w1 (((w1.alloc (.cells #[.slice none 0 0, .slice none 0 0, .slice none 0 0, .int .i64 0] 30)).alloc (.cells #[.slice none 0 0, .slice none 0 0, .slice none 0 0, .int .i64 0] 71)).alloc (.cells #[.int .i64 0, .pointer (some ⟨w1.heap.size, 0, none⟩), .pointer (some ⟨w1.heap.size + 1, 0, none⟩)] 73)) := (((Below.refl _ _).alloc (Nat.le_refl _) _).alloc (by rw [World.size_alloc]; omega) _).alloc (by rw [World.size_alloc, World.size_alloc]; omega) _
  rw [World.size_alloc] at by_
  rw [World.size_alloc, World.size_alloc] at bp
  have bs4 := HBS.out.below b4
  obtain ⟨W4, hW4⟩ : ∃ W4, (((w1.alloc (.cells #[.slice none 0 0, .slice none 0 0, .slice none 0 0, .int .i64 0] 30)).alloc (.cells #[.slice none 0 0, .slice none 0 0, .slice none 0 0, .int .i64 0] 71)).alloc (.cells #[.int .i64 0, .pointer (some ⟨w1.heap.size, 0, none⟩), .pointer (some ⟨w1.heap.size + 1, 0, none⟩)] 73)) = W4 := ⟨_, rfl⟩
  rw [hW4] at bx by_ bp b4 bs4 ⊢
  rw [hx] at bx by_ bp b4 ⊢
  rw [hy] at by_ bp ⊢
  rw [hpb] at bp ⊢
  have hb4 : Below w.heap.size w W4 := by rw [hsb]; rw [hsb] at bb1; exact bb1.trans (b4.mono (by omega))
  have hx4 := bx.lt
  have hy4 := by_.lt
  have hp4 := bp.lt
  have hAw : A ≤ w.heap.size := hge
  have HFI := Veil.mk (fill_any A x y L T G 0 k nn (.slice sa1 L.length sc1) (.slice sa2 T.length sc2) (.slice sa3 G.length sc3) (.int .i64 0) W4 (by omega) (by omega) (by omega) bx by_ (HR.out.1.on (hb4.mono hAw)) (HR.out.2.1.on (hb4.mono hAw)) (HR.out.2.2.1.on (hb4.mono hAw)) hl1 hl2 hl3)
  have z0 : W4.cell? ⟨pb, 0, none⟩ = some (.int .i64 0) := bp.at_ 0
  have z1 : W4.cell? ⟨pb, 1, none⟩ = some (.pointer (some ⟨x, 0, none⟩)) := bp.at_ 1
  have z2 : W4.cell? ⟨pb, 2, none⟩ = some (.pointer (some ⟨y, 0, none⟩)) := bp.at_ 2
  have y0 : W4.cell? ⟨sb, 0, none⟩ = some (.int .i64 k) := bs4.at_ 0
  have y1 : W4.cell? ⟨sb, 1, none⟩ = some (.slice sa1 L.length sc1) := bs4.at_ 1
  have y2 : W4.cell? ⟨sb, 2, none⟩ = some (.slice sa2 T.length sc2) := bs4.at_ 2
  have y3 : W4.cell? ⟨sb, 3, none⟩ = some (.slice sa3 G.length sc3) := bs4.at_ 3
  have y4 : W4.cell? ⟨sb, 4, none⟩ = some (.int .i64 nn) := bs4.at_ 4
  have HB4 := Veil.mk (And.intro hb4 (And.intro bp (And.intro (show w.heap.size ≤ x ∧ w.heap.size ≤ y ∧ w.heap.size ≤ pb ∧ pb ≠ x ∧ pb ≠ y by omega) (show w.heap.size ≤ W4.heap.size by omega))))
  have HGE := Veil.mk hge
  clear hw1 bb1 hz1 hsb hx hy hpb bx by_ bp b4 bs4 hW4 hb4 hx4 hy4 hp4 hAw HW1 HBS hge
  go_upto_region 11 with (first | (go_at_call 31; ((with_reducible refine HFI.out.mono ?_); rintro e9 w5 ⟨rfl, hb5, ht5, vs, hf5⟩)))
  clear z0 z1 z2 y0 y1 y2 y3 y4
  obtain ⟨hb4, bp4, ⟨g1, g2, g3, g4, g5⟩, hs4⟩ := HB4.out
  obtain ⟨rr, hrr⟩ : ∃ rr : Int, (((ps.map PI.x).length + 1 : Nat) : Int) = rr := ⟨_, rfl⟩
  obtain ⟨p, hp⟩ : ∃ p : PI, p = ⟨rr, x, y, L, T, G, vs⟩ := ⟨_, rfl⟩
  have hbw5 : Below w.heap.size w w5 := hb4.trans (ht5.below hs4 (fun j hj => by omega))
  have hmid : Mid A bb mb w.heap.size ps p pb (ps.map PI.x) (ps.map PI.y) 0 cv fv rv Lv lv w5 := by
    have hk5 := HKS.out.on hbw5
    have hfp := hf5.low (Nat.le_trans HGE.out hs4)
    refine ⟨hk5.ar, fun q hq => ?_, fun q hq i b hb hf => ?_, hk5.bx, hk5.mx, hk5.rl, hk5.ll, hk5.bge, ?_, ⟨g3, Nat.le_trans HGE.out g3⟩, fun j hj => (own_lt HKS.out.ll j hj).2⟩
    · rcases List.mem_append.1 hq with hq | hq
      · exact hk5.fil q hq
      · have e : q = p := by simpa using hq
        rw [e, hp]
        exact ⟨Nat.le_trans HGE.out g1, Nat.le_trans HGE.out g2, hfp, hl1, hl2, hl3, HR.out.2.2.2⟩
    · rcases List.mem_append.1 hq with hq | hq
      · exact hk5.nax q hq i b hb hf
      · have e : q = p := by simpa using hq
        rw [e, hp] at hb
        obtain ⟨e', sz, n', xs', ho, he⟩ := hf5.own i
        have h1 := (own_lt ho b hb).1
        have h2 := (AFoot.lt HKS.out.ar hf).2
        omega
    · rw [hp]
      exact bp4.touch ht5 (fun e => e.elim g4 g5)
  have HPX : Veil (p.x = x ∧ p.y = y ∧ p.r = rr) := ⟨by rw [hp]; exact ⟨rfl, rfl, rfl⟩⟩
  have HRR := Veil.mk hrr
  have HRR2 : Veil ((((ps.map PI.y).length + 1 : Nat) : Int) = rr) := ⟨by rw [← hrr, List.length_map, List.length_map]⟩
  obtain ⟨WD, hWD⟩ : ∃ WD, w5.drew = WD := ⟨_, rfl⟩
  have HMD : Veil (Mid A bb mb w.heap.size ps p pb (ps.map PI.x) (ps.map PI.y) 0 cv fv rv Lv lv WD) := ⟨by rw [← hWD]; exact hmid.on (Below.refl _ _).drew⟩
  have HBD : Veil (Below A w WD) := ⟨by rw [← hWD]; exact (hbw5.mono HGE.out).drew⟩
  have HWD := Veil.mk hWD
  clear hb4 bp4 g1 g2 g3 g4 g5 hs4 hp hbw5 hmid hrr hWD hb5 ht5 hf5 HB4 HFI
  refine wp_region_chain ([some (· = .pointer (some ⟨bb, 0, none⟩)), some (· = .pointer (some ⟨bb, 0, none⟩)), some (· = .pointer (some ⟨bb, 0, none⟩)), some (· = .pointer (some ⟨A, 0, none⟩)), some (· = .pointer (some ⟨pb, 1, none⟩)), some (· = .pointer (some ⟨x, 0, none⟩)), some (· = nodeV x), none, some (· = .pointer (some ⟨pb, 0, none⟩)), none] : List (Option (Value → Prop))) (LPh [7, 9] (R11St A bb mb w.heap.size ps p pb (ps.map PI.x) (ps.map PI.y) fv rv Lv lv rr WD)) [some 59, some 60, some 61, some 62, some 63, some 64, some 65, some 66, some 67, none] (curV' _ [some 59, some 60, some 61, some 62, some 63, some 64, some 65, some 66, some 67, none]) (by kernel_rfl) rfl rfl (puts_cur _ _) (LPh.start (show w5.drew = WD from HWD.out)) ?_ (by kernel_rfl) ?_
  · refine Steps.cons rfl (fun bits9 aa w' hbs hb0 hbp hI K hK => ?_) ?_
    · obtain ⟨us, hus, ha, hI⟩ := hI
      obtain ⟨u0, u1, u2, u3, u4, u5, u6, u7, u8, u9, rfl⟩ := len10 hus
      have HI := Veil.mk hI
      clear hI
      rw [ha]
      simp only [puts, setAll, List.setIfInBounds_toArray, List.set_cons_zero, List.set_cons_succ]
      go_simp
      exact hK _ _ (chain_step HI.out hus hbs 0 _ (by show 0 < 10; decide) rfl hbp (val_of rfl rfl) (HI.out.ph.step 0 _ (by decide) (by decide)) (by simp only [puts, setAll, List.set_cons_zero, List.set_cons_succ, List.setIfInBounds_toArray]))
    refine Steps.cons rfl (fun bits9 aa w' hbs hb0 hbp hI K hK => ?_) ?_
    · obtain ⟨us, hus, ha, hI⟩ := hI
      obtain ⟨u0, u1, u2, u3, u4, u5, u6, u7, u8, u9, rfl⟩ := len10 hus
      have e0 : u0 = .pointer (some ⟨bb, 0, none⟩) := hI.val 0 _ rfl (gen_after 0 (by kernel_rfl) hbp)
      subst e0
      have HI := Veil.mk hI
      clear hI
      rw [ha]
      simp only [puts, setAll, List.setIfInBounds_toArray, List.set_cons_zero, List.set_cons_succ]
      go_simp
      exact hK _ _ (chain_step HI.out hus hbs 1 _ (by show 1 < 10; decide) rfl hbp (val_of rfl rfl) (HI.out.ph.step 1 _ (by decide) (by decide)) (by simp only [puts, setAll, List.set_cons_zero, List.set_cons_succ, List.setIfInBounds_toArray]))
    refine Steps.cons rfl (fun bits9 aa w' hbs hb0 hbp hI K hK => ?_) ?_
    · obtain ⟨us, hus, ha, hI⟩ := hI
      obtain ⟨u0, u1, u2, u3, u4, u5, u6, u7, u8, u9, rfl⟩ := len10 hus
      have e1 : u1 = .pointer (some ⟨bb, 0, none⟩) := hI.val 1 _ rfl (gen_after 1 (by kernel_rfl) hbp)
      subst e1
      have HI := Veil.mk hI
      clear hI
      rw [ha]
      simp only [puts, setAll, List.setIfInBounds_toArray, List.set_cons_zero, List.set_cons_succ]
      go_simp
      exact hK _ _ (chain_step HI.out hus hbs 2 _ (by show 2 < 10; decide) rfl hbp (val_of rfl rfl) (HI.out.ph.step 2 _ (by decide) (by decide)) (by simp only [puts, setAll, List.set_cons_zero, List.set_cons_succ, List.setIfInBounds_toArray]))
    refine Steps.cons rfl (fun bits9 aa w' hbs hb0 hbp hI K hK => ?_) ?_
    · obtain ⟨us, hus, ha, hI⟩ := hI
      obtain ⟨u0, u1, u2, u3, u4, u5, u6, u7, u8, u9, rfl⟩ := len10 hus
      have e2 : u2 = .pointer (some ⟨bb, 0, none⟩) := hI.val 2 _ rfl (gen_after 2 (by kernel_rfl) hbp)
      subst e2
      have h7 := hI.before 7 3 rfl (by kernel_rfl) hb0
      have hst := hI.ph.at_ 0 7 rfl h7 (.inl rfl)
      clear h7
      have c0 : w'.cell? ⟨bb, 0, none⟩ = some (.pointer (some ⟨A, 0, none⟩)) := by rw [show w' = WD from hst]; exact HMD.out.bx.at_ 0
      have HI := Veil.mk hI
      clear hI
      rw [ha]
      simp only [puts, setAll, List.setIfInBounds_toArray, List.set_cons_zero, List.set_cons_succ]
      go_simp
      exact hK _ _ (chain_step HI.out hus hbs 3 _ (by show 3 < 10; decide) rfl hbp (val_of rfl rfl) (HI.out.ph.step 3 _ (by decide) (by decide)) (by simp only [puts, setAll, List.set_cons_zero, List.set_cons_succ, List.setIfInBounds_toArray]))
    refine Steps.cons rfl (fun bits9 aa w' hbs hb0 hbp hI K hK => ?_) ?_
    · obtain ⟨us, hus, ha, hI⟩ := hI
      obtain ⟨u0, u1, u2, u3, u4, u5, u6, u7, u8, u9, rfl⟩ := len10 hus
      have HI := Veil.mk hI
      clear hI
      rw [ha]
      simp only [puts, setAll, List.setIfInBounds_toArray, List.set_cons_zero, List.set_cons_succ]
      go_simp
      exact hK _ _ (chain_step HI.out hus hbs 4 _ (by show 4 < 10; decide) rfl hbp (val_of rfl rfl) (HI.out.ph.step 4 _ (by decide) (by decide)) (by simp only [puts, setAll, List.set_cons_zero, List.set_cons_succ, List.setIfInBounds_toArray]))
    refine Steps.cons rfl (fun bits9 aa w' hbs hb0 hbp hI K hK => ?_) ?_
    · obtain ⟨us, hus, ha, hI⟩ := hI
      obtain ⟨u0, u1, u2, u3, u4, u5, u6, u7, u8, u9, rfl⟩ := len10 hus
      have e4 : u4 = .pointer (some ⟨pb, 1, none⟩) := hI.val 4 _ rfl (gen_after 4 (by kernel_rfl) hbp)
      subst e4
      have h6 := hI.before 6 5 rfl (by kernel_rfl) hb0
      have h7 := hI.before 7 6 rfl (by kernel_rfl) h6
      have hst := hI.ph.at_ 0 7 rfl h7 (.inl rfl)
      clear h7 h6
      have c0 : w'.cell? ⟨pb, 1, none⟩ = some (.pointer (some ⟨x, 0, none⟩)) := by rw [show w' = WD from hst, ← HPX.out.1]; exact HMD.out.pbx.at_ 1
      have HI := Veil.mk hI
      clear hI
      rw [ha]
      simp only [puts, setAll, List.setIfInBounds_toArray, List.set_cons_zero, List.set_cons_succ]
      go_simp
      exact hK _ _ (chain_step HI.out hus hbs 5 _ (by show 5 < 10; decide) rfl hbp (val_of rfl rfl) (HI.out.ph.step 5 _ (by decide) (by decide)) (by simp only [puts, setAll, List.set_cons_zero, List.set_cons_succ, List.setIfInBounds_toArray]))
    refine Steps.cons rfl (fun bits9 aa w' hbs hb0 hbp hI K hK => ?_) ?_
    · obtain ⟨us, hus, ha, hI⟩ := hI
      obtain ⟨u0, u1, u2, u3, u4, u5, u6, u7, u8, u9, rfl⟩ := len10 hus
      have e5 : u5 = .pointer (some ⟨x, 0, none⟩) := hI.val 5 _ rfl (gen_after 5 (by kernel_rfl) hbp)
      subst e5
      have HI := Veil.mk hI
      clear hI
      rw [ha]
      simp only [puts, setAll, List.setIfInBounds_toArray, List.set_cons_zero, List.set_cons_succ]
      go_simp
      exact hK _ _ (chain_step HI.out hus hbs 6 _ (by show 6 < 10; decide) rfl hbp (val_of rfl rfl) (HI.out.ph.step 6 _ (by decide) (by decide)) (by simp only [puts, setAll, List.set_cons_zero, List.set_cons_succ, List.setIfInBounds_toArray]))
    refine Steps.cons rfl (fun bits9 aa w' hbs hb0 hbp hI K hK => ?_) ?_
    · obtain ⟨us, hus, ha, hI⟩ := hI
      obtain ⟨u0, u1, u2, u3, u4, u5, u6, u7, u8, u9, rfl⟩ := len10 hus
      have e3 : u3 = .pointer (some ⟨A, 0, none⟩) := hI.val 3 _ rfl (gen_after 3 (by kernel_rfl) hbp)
      subst e3
      have e6 : u6 = nodeV x := hI.val 6 _ rfl (gen_after 6 (by kernel_rfl) hbp)
      subst e6
      have hst := hI.ph.at_ 0 7 rfl hb0 (.inl rfl)
      have HMK := Veil.mk (HMD.out.make (by rw [List.length_map]; omega))
      rw [HRR.out, show nodeV p.x = nodeV x by rw [HPX.out.1]] at HMK
      rw [← show w' = WD from hst] at HMK
      have HST := Veil.mk (show w' = WD from hst)
      have HI := Veil.mk hI
      clear hI
      rw [ha]
      simp only [puts, setAll, List.setIfInBounds_toArray, List.set_cons_zero, List.set_cons_succ]
      go_simp
      go_at_call 10
      refine HMK.out.mono ?_
      rintro e9 w9 ⟨rfl, hb9, cv9, hc9⟩
      go_simp
      exact hK _ _ (chain_step HI.out hus hbs 7 (.int .i64 rr) (by show 7 < 10; decide) rfl hbp (none_of rfl) (HI.out.ph.next 0 7 _ rfl hb0 (.inl rfl) (by decide) ⟨rfl, cv9, by rw [← HST.out]; exact hb9, hc9⟩) (by simp only [puts, setAll, List.set_cons_zero, List.set_cons_succ, List.setIfInBounds_toArray]))
    refine Steps.cons rfl (fun bits9 aa w' hbs hb0 hbp hI K hK => ?_) ?_
    · obtain ⟨us, hus, ha, hI⟩ := hI
      obtain ⟨u0, u1, u2, u3, u4, u5, u6, u7, u8, u9, rfl⟩ := len10 hus
      have HI := Veil.mk hI
      clear hI
      rw [ha]
      simp only [puts, setAll, List.setIfInBounds_toArray, List.set_cons_zero, List.set_cons_succ]
      go_simp
      exact hK _ _ (chain_step HI.out hus hbs 8 _ (by show 8 < 10; decide) rfl hbp (val_of rfl rfl) (HI.out.ph.step 8 _ (by decide) (by decide)) (by simp only [puts, setAll, List.set_cons_zero, List.set_cons_succ, List.setIfInBounds_toArray]))
    refine Steps.cons rfl (fun bits9 aa w' hbs hb0 hbp hI K hK => ?_) ?_
    · obtain ⟨us, hus, ha, hI⟩ := hI
      obtain ⟨u0, u1, u2, u3, u4, u5, u6, u7, u8, u9, rfl⟩ := len10 hus
      have e8 : u8 = .pointer (some ⟨pb, 0, none⟩) := hI.val 8 _ rfl (gen_after 8 (by kernel_rfl) hbp)
      subst e8
      have hst := hI.ph.at_ 1 9 rfl hb0 (.inr ⟨7, rfl, gen_after 7 (by kernel_rfl) hbp⟩)
      obtain ⟨e7, cv9, hb9, hc9⟩ := hst
      have e7 : u7 = .int .i64 rr := e7
      subst e7
      have c0 : ∃ u, w'.cell? ⟨pb, 0, none⟩ = some u := ⟨_, hc9.pbx.at_ 0⟩
      obtain ⟨u99, c0⟩ := c0
      have c0f := hc9.pbx.free 0
      have HST := Veil.mk (And.intro hb9 hc9)
      clear hb9 hc9
      have HI := Veil.mk hI
      clear hI
      rw [ha]
      simp only [puts, setAll, List.setIfInBounds_toArray, List.set_cons_zero, List.set_cons_succ]
      go_simp
      exact hK _ _ (chain_step HI.out hus hbs 9 undef (by show 9 < 10; decide) rfl hbp (none_of rfl) (HI.out.ph.next 1 9 _ rfl hb0 (.inr ⟨7, rfl, gen_after 7 (by kernel_rfl) hbp⟩) (by decide) ⟨cv9, HST.out.1.trans (HST.out.2.setr rr).1, (HST.out.2.setr rr).2⟩) (by simp only [puts, setAll, List.set_cons_zero, List.set_cons_succ, List.setIfInBounds_toArray]))
    exact Steps.nil
  · intro us w6 hus dd hD2 hJ
    obtain ⟨q0, q1, q2, q3, q4, q5, q6, q7, q8, q9, rfl⟩ := len10 hus
    obtain ⟨cv6, hb6, hm6⟩ := hJ.ph.all (fun c hc => hD2 c (by
      have : c = 7 ∨ c = 9 := by simpa using hc
      show c < 10
      omega))
    clear hJ hD2
    simp only [puts, setAll, List.set_cons_zero, List.set_cons_succ, List.setIfInBounds_toArray]
    have HMW := Veil.mk (And.intro (HBD.out.trans hb6) hm6)
    clear hb6 hm6 HMD HBD HWD
    go_upto_region 12 with (fail)
    obtain ⟨WD, hWD⟩ : ∃ WD, w6.drew = WD := ⟨_, rfl⟩
    have HMD : Veil (Mid A bb mb w.heap.size ps p pb (ps.map PI.x ++ [p.x]) (ps.map PI.y) rr cv6 fv rv Lv lv WD) := ⟨by rw [← hWD]; exact HMW.out.2.on (Below.refl _ _).drew⟩
    have HBD : Veil (Below A w WD) := ⟨by rw [← hWD]; exact HMW.out.1.drew⟩
    have HWD := Veil.mk hWD
    have qr : (rr != rr) = false := by simp
    clear hWD HMW
    refine wp_region_chain ([some (· = .pointer (some ⟨pb, 0, none⟩)), some (· = .int .i64 rr), some (· = .pointer (some ⟨bb, 0, none⟩)), some (· = .pointer (some ⟨bb, 0, none⟩)), some (· = .pointer (some ⟨bb, 1, none⟩)), some (· = .pointer (some ⟨mb, 0, none⟩)), some (· = .pointer (some ⟨pb, 2, none⟩)), some (· = .pointer (some ⟨y, 0, none⟩)), some (· = .int .i64 rr), some (· = .bool false)] : List (Option (Value → Prop))) (LPh [8] (R12St A bb mb w.heap.size ps p pb (ps.map PI.x ++ [p.x]) (ps.map PI.y) cv6 fv rv lv rr WD)) [some 68, some 69, some 70, some 71, some 72, some 73, some 74, some 75, some 76, some 77] (curV' _ [some 68, some 69, some 70, some 71, some 72, some 73, some 74, some 75, some 76, some 77]) (by kernel_rfl) rfl rfl (puts_cur _ _) (LPh.start (show w6.drew = WD from HWD.out)) ?_ (by kernel_rfl) ?_
    · refine Steps.cons rfl (fun bits9 aa w' hbs hb0 hbp hI K hK => ?_) ?_
      · obtain ⟨us, hus, ha, hI⟩ := hI
        obtain ⟨u0, u1, u2, u3, u4, u5, u6, u7, u8, u9, rfl⟩ := len10 hus
        have HI := Veil.mk hI
        clear hI
        rw [ha]
        simp only [puts, setAll, List.setIfInBounds_toArray, List.set_cons_zero, List.set_cons_succ]
        go_simp
        exact hK _ _ (chain_step HI.out hus hbs 0 _ (by show 0 < 10; decide) rfl hbp (val_of rfl rfl) (HI.out.ph.step 0 _ (by decide) (by decide)) (by simp only [puts, setAll, List.set_cons_zero, List.set_cons_succ, List.setIfInBounds_toArray]))
      refine Steps.cons rfl (fun bits9 aa w' hbs hb0 hbp hI K hK => ?_) ?_
      · obtain ⟨us, hus, ha, hI⟩ := hI
        obtain ⟨u0, u1, u2, u3, u4, u5, u6, u7, u8, u9, rfl⟩ := len10 hus
        have e0 : u0 = .pointer (some ⟨pb, 0, none⟩) := hI.val 0 _ rfl (gen_after 0 (by kernel_rfl) hbp)
        subst e0
        have c0 : w'.cell? ⟨pb, 0, none⟩ = some (.int .i64 rr) := (hI.ph.any (fun w => w.cell? ⟨pb, 0, none⟩ = some (.int .i64 rr)) (fun s f w h => R12St.cell h (HMD.out.pbx.at_ 0)))
        have HI := Veil.mk hI
        clear hI
        rw [ha]
        simp only [puts, setAll, List.setIfInBounds_toArray, List.set_cons_zero, List.set_cons_succ]
        go_simp
        exact hK _ _ (chain_step HI.out hus hbs 1 _ (by show 1 < 10; decide) rfl hbp (val_of rfl rfl) (HI.out.ph.step 1 _ (by decide) (by decide)) (by simp only [puts, setAll, List.set_cons_zero, List.set_cons_succ, List.setIfInBounds_toArray]))
      refine Steps.cons rfl (fun bits9 aa w' hbs hb0 hbp hI K hK => ?_) ?_
      · obtain ⟨us, hus, ha, hI⟩ := hI
        obtain ⟨u0, u1, u2, u3, u4, u5, u6, u7, u8, u9, rfl⟩ := len10 hus
        have HI := Veil.mk hI
        clear hI
        rw [ha]
        simp only [puts, setAll, List.setIfInBounds_toArray, List.set_cons_zero, List.set_cons_succ]
        go_simp
        exact hK _ _ (chain_step HI.out hus hbs 2 _ (by show 2 < 10; decide) rfl hbp (val_of rfl rfl) (HI.out.ph.step 2 _ (by decide) (by decide)) (by simp only [puts, setAll, List.set_cons_zero, List.set_cons_succ, List.setIfInBounds_toArray]))
      refine Steps.cons rfl (fun bits9 aa w' hbs hb0 hbp hI K hK => ?_) ?_
      · obtain ⟨us, hus, ha, hI⟩ := hI
        obtain ⟨u0, u1, u2, u3, u4, u5, u6, u7, u8, u9, rfl⟩ := len10 hus
        have e2 : u2 = .pointer (some ⟨bb, 0, none⟩) := hI.val 2 _ rfl (gen_after 2 (by kernel_rfl) hbp)
        subst e2
        have HI := Veil.mk hI
        clear hI
        rw [ha]
        simp only [puts, setAll, List.setIfInBounds_toArray, List.set_cons_zero, List.set_cons_succ]
        go_simp
        exact hK _ _ (chain_step HI.out hus hbs 3 _ (by show 3 < 10; decide) rfl hbp (val_of rfl rfl) (HI.out.ph.step 3 _ (by decide) (by decide)) (by simp only [puts, setAll, List.set_cons_zero, List.set_cons_succ, List.setIfInBounds_toArray]))
      refine Steps.cons rfl (fun bits9 aa w' hbs hb0 hbp hI K hK => ?_) ?_
      · obtain ⟨us, hus, ha, hI⟩ := hI
        obtain ⟨u0, u1, u2, u3, u4, u5, u6, u7, u8, u9, rfl⟩ := len10 hus
        have e3 : u3 = .pointer (some ⟨bb, 0, none⟩) := hI.val 3 _ rfl (gen_after 3 (by kernel_rfl) hbp)
        subst e3
        have HI := Veil.mk hI
        clear hI
        rw [ha]
        simp only [puts, setAll, List.setIfInBounds_toArray, List.set_cons_zero, List.set_cons_succ]
        go_simp
        exact hK _ _ (chain_step HI.out hus hbs 4 _ (by show 4 < 10; decide) rfl hbp (val_of rfl rfl) (HI.out.ph.step 4 _ (by decide) (by decide)) (by simp only [puts, setAll, List.set_cons_zero, List.set_cons_succ, List.setIfInBounds_toArray]))
      refine Steps.cons rfl (fun bits9 aa w' hbs hb0 hbp hI K hK => ?_) ?_
      · obtain ⟨us, hus, ha, hI⟩ := hI
        obtain ⟨u0, u1, u2, u3, u4, u5, u6, u7, u8, u9, rfl⟩ := len10 hus
        have e4 : u4 = .pointer (some ⟨bb, 1, none⟩) := hI.val 4 _ rfl (gen_after 4 (by kernel_rfl) hbp)
        subst e4
        have h8 := hI.before 8 5 rfl (by kernel_rfl) hb0
        have hst := hI.ph.at_ 0 8 rfl h8 (.inl rfl)
        clear h8
        have c0 : w'.cell? ⟨bb, 1, none⟩ = some (.pointer (some ⟨mb, 0, none⟩)) := by rw [show w' = WD from hst]; exact HMD.out.bx.at_ 1
        have HI := Veil.mk hI
        clear hI
        rw [ha]
        simp only [puts, setAll, List.setIfInBounds_toArray, List.set_cons_zero, List.set_cons_succ]
        go_simp
        exact hK _ _ (chain_step HI.out hus hbs 5 _ (by show 5 < 10; decide) rfl hbp (val_of rfl rfl) (HI.out.ph.step 5 _ (by decide) (by decide)) (by simp only [puts, setAll, List.set_cons_zero, List.set_cons_succ, List.setIfInBounds_toArray]))
      refine Steps.cons rfl (fun bits9 aa w' hbs hb0 hbp hI K hK => ?_) ?_
      · obtain ⟨us, hus, ha, hI⟩ := hI
        obtain ⟨u0, u1, u2, u3, u4, u5, u6, u7, u8, u9, rfl⟩ := len10 hus
        have HI := Veil.mk hI
        clear hI
        rw [ha]
        simp only [puts, setAll, List.setIfInBounds_toArray, List.set_cons_zero, List.set_cons_succ]
        go_simp
        exact hK _ _ (chain_step HI.out hus hbs 6 _ (by show 6 < 10; decide) rfl hbp (val_of rfl rfl) (HI.out.ph.step 6 _ (by decide) (by decide)) (by simp only [puts, setAll, List.set_cons_zero, List.set_cons_succ, List.setIfInBounds_toArray]))
      refine Steps.cons rfl (fun bits9 aa w' hbs hb0 hbp hI K hK => ?_) ?_
      · obtain ⟨us, hus, ha, hI⟩ := hI
        obtain ⟨u0, u1, u2, u3, u4, u5, u6, u7, u8, u9, rfl⟩ := len10 hus
        have e6 : u6 = .pointer (some ⟨pb, 2, none⟩) := hI.val 6 _ rfl (gen_after 6 (by kernel_rfl) hbp)
        subst e6
        have h8 := hI.before 8 7 rfl (by kernel_rfl) hb0
        have hst := hI.ph.at_ 0 8 rfl h8 (.inl rfl)
        clear h8
        have c0 : w'.cell? ⟨pb, 2, none⟩ = some (.pointer (some ⟨y, 0, none⟩)) := by rw [show w' = WD from hst, ← HPX.out.2.1]; exact HMD.out.pbx.at_ 2
        have HI := Veil.mk hI
        clear hI
        rw [ha]
        simp only [puts, setAll, List.setIfInBounds_toArray, List.set_cons_zero, List.set_cons_succ]
        go_simp
        exact hK _ _ (chain_step HI.out hus hbs 7 _ (by show 7 < 10; decide) rfl hbp (val_of rfl rfl) (HI.out.ph.step 7 _ (by decide) (by decide)) (by simp only [puts, setAll, List.set_cons_zero, List.set_cons_succ, List.setIfInBounds_toArray]))
      refine Steps.cons rfl (fun bits9 aa w' hbs hb0 hbp hI K hK => ?_) ?_
      · obtain ⟨us, hus, ha, hI⟩ := hI
        obtain ⟨u0, u1, u2, u3, u4, u5, u6, u7, u8, u9, rfl⟩ := len10 hus
        have e5 : u5 = .pointer (some ⟨mb, 0, none⟩) := hI.val 5 _ rfl (gen_after 5 (by kernel_rfl) hbp)
        subst e5
        have e7 : u7 = .pointer (some ⟨y, 0, none⟩) := hI.val 7 _ rfl (gen_after 7 (by kernel_rfl) hbp)
        subst e7
        have hst := hI.ph.at_ 0 8 rfl hb0 (.inl rfl)
        have HMK := Veil.mk (HMD.out.refm (by rw [List.length_map]; omega))
        rw [HRR2.out, show Value.pointer (some ⟨p.y, 0, none⟩) = Value.pointer (some ⟨y, 0, none⟩) by rw [HPX.out.2.1]] at HMK
        rw [← show w' = WD from hst] at HMK
        have HST := Veil.mk (show w' = WD from hst)
        have HI := Veil.mk hI
        clear hI
        rw [ha]
        simp only [puts, setAll, List.setIfInBounds_toArray, List.set_cons_zero, List.set_cons_succ]
        go_simp
        go_at_call 32
        refine HMK.out.mono ?_
        rintro e9 w9 ⟨rfl, hb9, Lv9, hc9⟩
        go_simp
        exact hK _ _ (chain_step HI.out hus hbs 8 (.int .i64 rr) (by show 8 < 10; decide) rfl hbp (val_of rfl rfl) (HI.out.ph.next 0 8 _ rfl hb0 (.inl rfl) (by decide) ⟨Lv9, by rw [← HST.out]; exact hb9, hc9⟩) (by simp only [puts, setAll, List.set_cons_zero, List.set_cons_succ, List.setIfInBounds_toArray]))
      refine Steps.cons rfl (fun bits9 aa w' hbs hb0 hbp hI K hK => ?_) ?_
      · obtain ⟨us, hus, ha, hI⟩ := hI
        obtain ⟨u0, u1, u2, u3, u4, u5, u6, u7, u8, u9, rfl⟩ := len10 hus
        have e1 : u1 = .int .i64 rr := hI.val 1 _ rfl (gen_after 1 (by kernel_rfl) hbp)
        subst e1
        have e8 : u8 = .int .i64 rr := hI.val 8 _ rfl (gen_after 8 (by kernel_rfl) hbp)
        subst e8
        have HI := Veil.mk hI
        clear hI
        rw [ha]
        simp only [puts, setAll, List.setIfInBounds_toArray, List.set_cons_zero, List.set_cons_succ]
        go_simp
        exact hK _ _ (chain_step HI.out hus hbs 9 _ (by show 9 < 10; decide) rfl hbp (val_of rfl rfl) (HI.out.ph.step 9 _ (by decide) (by decide)) (by simp only [puts, setAll, List.set_cons_zero, List.set_cons_succ, List.setIfInBounds_toArray]))
      exact Steps.nil
    · intro us w7 hus dd hD2 hJ
      obtain ⟨t0, t1, t2, t3, t4, t5, t6, t7, t8, t9, rfl⟩ := len10 hus
      obtain ⟨Lv7, hb7, hm7⟩ := hJ.ph.all (fun c hc => hD2 c (by
        have : c = 8 := by simpa using hc
        show c < 10
        omega))
      have e77 : t9 = .bool false := hJ.val 9 _ rfl (hD2 9 (by show 9 < 10; decide))
      subst e77
      clear hJ hD2
      simp only [puts, setAll, List.set_cons_zero, List.set_cons_succ, List.setIfInBounds_toArray]
      have HMW := Veil.mk (And.intro (HBD.out.trans hb7) hm7)
      clear hb7 hm7 HMD HBD HWD
      go_upto_region 14 with (fail)
      have HMD := Veil.mk HMW.out.2
      refine wp_region_chain ([some (· = .pointer (some ⟨bb, 0, none⟩)), some (· = .pointer (some ⟨bb, 0, none⟩)), some (· = .pointer (some ⟨bb, 0, none⟩)), some (· = .pointer (some ⟨bb, 2, none⟩)), some (· = lv), some (· = .agg #[.int .i64 rr, .pointer (some ⟨x, 0, none⟩), .pointer (some ⟨y, 0, none⟩)]), none, none, some (· = .pointer (some ⟨bb, 0, none⟩)), some (· = .pointer (some ⟨bb, 2, none⟩)), none] : List (Option (Value → Prop))) (AppPh w7 A 73 3 ps.length (flat3 ps) [.int .i64 rr, .pointer (some ⟨x, 0, none⟩), .pointer (some ⟨y, 0, none⟩)] lv bb 2 6 7 10) [some 78, some 79, some 80, some 81, some 82, some 83, some 84, some 85, some 86, some 87, none] (curV' _ [some 78, some 79, some 80, some 81, some 82, some 83, some 84, some 85, some 86, some 87, none]) (by kernel_rfl) rfl rfl (puts_cur _ _) (Below.refl _ _).drew ?_ (by kernel_rfl) ?_
      · refine Steps.cons rfl (fun bits9 aa w' hbs hb0 hbp hI K hK => ?_) ?_
        · obtain ⟨us, hus, ha, hI⟩ := hI
          obtain ⟨u0, u1, u2, u3, u4, u5, u6, u7, u8, u9, u10, rfl⟩ := len11 hus
          have HI := Veil.mk hI
          clear hI
          rw [ha]
          simp only [puts, setAll, List.setIfInBounds_toArray, List.set_cons_zero, List.set_cons_succ]
          go_simp
          exact hK _ _ (chain_step HI.out hus hbs 0 _ (by show 0 < 11; decide) rfl hbp (val_of rfl rfl) (HI.out.ph.step 0 _ (by decide) (by decide) (by decide)) (by simp only [puts, setAll, List.set_cons_zero, List.set_cons_succ, List.setIfInBounds_toArray]))
        refine Steps.cons rfl (fun bits9 aa w' hbs hb0 hbp hI K hK => ?_) ?_
        · obtain ⟨us, hus, ha, hI⟩ := hI
          obtain ⟨u0, u1, u2, u3, u4, u5, u6, u7, u8, u9, u10, rfl⟩ := len11 hus
          have HI := Veil.mk hI
          clear hI
          rw [ha]
          simp only [puts, setAll, List.setIfInBounds_toArray, List.set_cons_zero, List.set_cons_succ]
          go_simp
          exact hK _ _ (chain_step HI.out hus hbs 1 _ (by show 1 < 11; decide) rfl hbp (val_of rfl rfl) (HI.out.ph.step 1 _ (by decide) (by decide) (by decide)) (by simp only [puts, setAll, List.set_cons_zero, List.set_cons_succ, List.setIfInBounds_toArray]))
        refine Steps.cons rfl (fun bits9 aa w' hbs hb0 hbp hI K hK => ?_) ?_
        · obtain ⟨us, hus, ha, hI⟩ := hI
          obtain ⟨u0, u1, u2, u3, u4, u5, u6, u7, u8, u9, u10, rfl⟩ := len11 hus
          have e1 : u1 = .pointer (some ⟨bb, 0, none⟩) := hI.val 1 _ rfl (gen_after 1 (by kernel_rfl) hbp)
          subst e1
          have HI := Veil.mk hI
          clear hI
          rw [ha]
          simp only [puts, setAll, List.setIfInBounds_toArray, List.set_cons_zero, List.set_cons_succ]
          go_simp
          exact hK _ _ (chain_step HI.out hus hbs 2 _ (by show 2 < 11; decide) rfl hbp (val_of rfl rfl) (HI.out.ph.step 2 _ (by decide) (by decide) (by decide)) (by simp only [puts, setAll, List.set_cons_zero, List.set_cons_succ, List.setIfInBounds_toArray]))
        refine Steps.cons rfl (fun bits9 aa w' hbs hb0 hbp hI K hK => ?_) ?_
        · obtain ⟨us, hus, ha, hI⟩ := hI
          obtain ⟨u0, u1, u2, u3, u4, u5, u6, u7, u8, u9, u10, rfl⟩ := len11 hus
          have e2 : u2 = .pointer (some ⟨bb, 0, none⟩) := hI.val 2 _ rfl (gen_after 2 (by kernel_rfl) hbp)
          subst e2
          have HI := Veil.mk hI
          clear hI
          rw [ha]
          simp only [puts, setAll, List.setIfInBounds_toArray, List.set_cons_zero, List.set_cons_succ]
          go_simp
          exact hK _ _ (chain_step HI.out hus hbs 3 _ (by show 3 < 11; decide) rfl hbp (val_of rfl rfl) (HI.out.ph.step 3 _ (by decide) (by decide) (by decide)) (by simp only [puts, setAll, List.set_cons_zero, List.set_cons_succ, List.setIfInBounds_toArray]))
        refine Steps.cons rfl (fun bits9 aa w' hbs hb0 hbp hI K hK => ?_) ?_
        · obtain ⟨us, hus, ha, hI⟩ := hI
          obtain ⟨u0, u1, u2, u3, u4, u5, u6, u7, u8, u9, u10, rfl⟩ := len11 hus
          have e3 : u3 = .pointer (some ⟨bb, 2, none⟩) := hI.val 3 _ rfl (gen_after 3 (by kernel_rfl) hbp)
          subst e3
          have h7 := hI.before 7 4 rfl (by kernel_rfl) hb0
          have h10 := hI.before 10 7 rfl (by kernel_rfl) h7
          have hch := hI.ph.below h10 h7
          have c0 : w'.cell? ⟨bb, 2, none⟩ = some lv := (HMD.out.bx.below hch).at_ 2
          have HI := Veil.mk hI
          clear hI
          clear h10
          clear h7
          rw [ha]
          simp only [puts, setAll, List.setIfInBounds_toArray, List.set_cons_zero, List.set_cons_succ]
          go_simp
          exact hK _ _ (chain_step HI.out hus hbs 4 _ (by show 4 < 11; decide) rfl hbp (val_of rfl rfl) (HI.out.ph.step 4 _ (by decide) (by decide) (by decide)) (by simp only [puts, setAll, List.set_cons_zero, List.set_cons_succ, List.setIfInBounds_toArray]))
        refine Steps.cons rfl (fun bits9 aa w' hbs hb0 hbp hI K hK => ?_) ?_
        · obtain ⟨us, hus, ha, hI⟩ := hI
          obtain ⟨u0, u1, u2, u3, u4, u5, u6, u7, u8, u9, u10, rfl⟩ := len11 hus
          have h6 := hI.before 6 5 rfl (by kernel_rfl) hb0
          have h7 := hI.before 7 6 rfl (by kernel_rfl) h6
          have h10 := hI.before 10 7 rfl (by kernel_rfl) h7
          have hch := hI.ph.below h10 h7
          have bq := HMD.out.pbx.below hch
          have c0 : w'.cell? ⟨pb, 0, none⟩ = some (.int .i64 rr) := bq.at_ 0
          have c1 : w'.cell? ⟨pb, 1, none⟩ = some (.pointer (some ⟨x, 0, none⟩)) := by rw [← HPX.out.1]; exact bq.at_ 1
          have c2 : w'.cell? ⟨pb, 2, none⟩ = some (.pointer (some ⟨y, 0, none⟩)) := by rw [← HPX.out.2.1]; exact bq.at_ 2
          clear bq
          have HI := Veil.mk hI
          clear hI
          clear h10
          clear h7
          clear h6
          rw [ha]
          simp only [puts, setAll, List.setIfInBounds_toArray, List.set_cons_zero, List.set_cons_succ]
          go_simp
          exact hK _ _ (chain_step HI.out hus hbs 5 _ (by show 5 < 11; decide) rfl hbp (val_of rfl rfl) (HI.out.ph.step 5 _ (by decide) (by decide) (by decide)) (by simp only [puts, setAll, List.set_cons_zero, List.set_cons_succ, List.setIfInBounds_toArray]))
        refine Steps.cons rfl (fun bits9 aa w' hbs hb0 hbp hI K hK => ?_) ?_
        · obtain ⟨us, hus, ha, hI⟩ := hI
          obtain ⟨u0, u1, u2, u3, u4, u5, u6, u7, u8, u9, u10, rfl⟩ := len11 hus
          have e5 : u5 = .agg #[.int .i64 rr, .pointer (some ⟨x, 0, none⟩), .pointer (some ⟨y, 0, none⟩)] := hI.val 5 _ rfl (gen_after 5 (by kernel_rfl) hbp)
          subst e5
          have h7 := hI.before 7 6 rfl (by kernel_rfl) hb0
          have h10 := hI.before 10 7 rfl (by kernel_rfl) h7
          have HI := Veil.mk hI
          clear hI
          have HF := Veil.mk (And.intro h10 h7)
          clear h10
          clear h7
          rw [ha]
          simp only [puts, setAll, List.setIfInBounds_toArray, List.set_cons_zero, List.set_cons_succ]
          go_simp
          exact hK _ _ (chain_step HI.out hus hbs 6 _ (by show 6 < 11; decide) rfl hbp (none_of rfl) (HI.out.ph.row (by decide) (by decide) HF.out.1 HF.out.2) (by simp only [puts, setAll, List.set_cons_zero, List.set_cons_succ, List.setIfInBounds_toArray]))
        refine Steps.cons rfl (fun bits9 aa w' hbs hb0 hbp hI K hK => ?_) ?_
        · obtain ⟨us, hus, ha, hI⟩ := hI
          obtain ⟨u0, u1, u2, u3, u4, u5, u6, u7, u8, u9, u10, rfl⟩ := len11 hus
          have hI4 : u4 = lv := hI.val 4 _ rfl (gen_after 4 (by kernel_rfl) hbp)
          have h10 := hI.before 10 7 rfl (by kernel_rfl) hb0
          have hp := hI.ph.at_bs h10 hb0 (gen_after 6 (by kernel_rfl) hbp)
          have HI := Veil.mk hI
          clear hI
          have HF := Veil.mk h10
          clear h10
          rw [ha]
          simp only [puts, setAll, List.setIfInBounds_toArray, List.set_cons_zero, List.set_cons_succ]
          clear ha
          obtain ⟨w2, hch, e6, rfl⟩ := hp
          have e : u6 = .slice (some ⟨w2.heap.size, 0, none⟩) 1 1 := e6
          clear e6
          subst e
          have hR2 := own_below HMD.out.ll hch
          have hs2 := hch.size
          have hAg := HMD.out.ge
          have e4 : u4 = lv := hI4
          refine wp_append_lies _ (.tmp 82) (.tmp 84) 44 rfl A 73 iP (.agg #[.int .i64 0, .pointer none, .pointer none]) 3 24 Try.underlying44 hiP hP0 hP1 hP2 rfl (by decide) lv ps.length (flat3 ps) (by simp [Act.eval, e4]) (hR2.alloc _) ⟨w2.heap.size, 0, none⟩ 1 1 [.int .i64 rr, .pointer (some ⟨x, 0, none⟩), .pointer (some ⟨y, 0, none⟩)] (by simp [Act.eval]) rfl (news_at _ _ rfl _ _) (by simp [Value.oneCell']) (by decide) (by unfold maxLen; omega) (by omega) (by simp; omega) _ rfl ?_; intro r cap' w3 hown' hgrow3 hblk hg3
          exact hK _ _ (chain_step HI.out hus hbs 7 _ (by show 7 < 11; decide) rfl hbp (none_of rfl) (AppPh.app (by decide) HF.out hch hown' hgrow3 hblk) (by simp only [Act.put, puts, setAll, List.set_cons_zero, List.set_cons_succ, List.setIfInBounds_toArray]))
        refine Steps.cons rfl (fun bits9 aa w' hbs hb0 hbp hI K hK => ?_) ?_
        · obtain ⟨us, hus, ha, hI⟩ := hI
          obtain ⟨u0, u1, u2, u3, u4, u5, u6, u7, u8, u9, u10, rfl⟩ := len11 hus
          have e0 : u0 = .pointer (some ⟨bb, 0, none⟩) := hI.val 0 _ rfl (gen_after 0 (by kernel_rfl) hbp)
          subst e0
          have HI := Veil.mk hI
          clear hI
          rw [ha]
          simp only [puts, setAll, List.setIfInBounds_toArray, List.set_cons_zero, List.set_cons_succ]
          go_simp
          exact hK _ _ (chain_step HI.out hus hbs 8 _ (by show 8 < 11; decide) rfl hbp (val_of rfl rfl) (HI.out.ph.step 8 _ (by decide) (by decide) (by decide)) (by simp only [puts, setAll, List.set_cons_zero, List.set_cons_succ, List.setIfInBounds_toArray]))
        refine Steps.cons rfl (fun bits9 aa w' hbs hb0 hbp hI K hK => ?_) ?_
        · obtain ⟨us, hus, ha, hI⟩ := hI
          obtain ⟨u0, u1, u2, u3, u4, u5, u6, u7, u8, u9, u10, rfl⟩ := len11 hus
          have e8 : u8 = .pointer (some ⟨bb, 0, none⟩) := hI.val 8 _ rfl (gen_after 8 (by kernel_rfl) hbp)
          subst e8
          have HI := Veil.mk hI
          clear hI
          rw [ha]
          simp only [puts, setAll, List.setIfInBounds_toArray, List.set_cons_zero, List.set_cons_succ]
          go_simp
          exact hK _ _ (chain_step HI.out hus hbs 9 _ (by show 9 < 11; decide) rfl hbp (val_of rfl rfl) (HI.out.ph.step 9 _ (by decide) (by decide) (by decide)) (by simp only [puts, setAll, List.set_cons_zero, List.set_cons_succ, List.setIfInBounds_toArray]))
        refine Steps.cons rfl (fun bits9 aa w' hbs hb0 hbp hI K hK => ?_) ?_
        · obtain ⟨us, hus, ha, hI⟩ := hI
          obtain ⟨u0, u1, u2, u3, u4, u5, u6, u7, u8, u9, u10, rfl⟩ := len11 hus
          have e9 : u9 = .pointer (some ⟨bb, 2, none⟩) := hI.val 9 _ rfl (gen_after 9 (by kernel_rfl) hbp)
          subst e9
          have hp := hI.ph.at_ap hb0 (gen_after 7 (by kernel_rfl) hbp)
          have HI := Veil.mk hI
          clear hI
          rw [ha]
          simp only [puts, setAll, List.setIfInBounds_toArray, List.set_cons_zero, List.set_cons_succ]
          clear ha
          obtain ⟨r, cap', e7, w2, hch, hown', hgrow3, hblk⟩ := hp
          have e : u7 = .slice (some ⟨r, 0, none⟩) (ps.length + 1) cap' := e7
          clear e7
          subst e
          have hN2 := HMD.out.bx.below hch
          have hR2 := own_below HMD.out.ll hch
          have hx3 : Box w' bb 46 _ := (hN2.more _).grown hgrow3 (hN2.apart hR2 (by decide))
          have e12 : w'.cell? ⟨bb, 2, none⟩ = some lv := hx3.at_ 2
          have e13 := hx3.free 2
          obtain ⟨la9, lc9, el9, -⟩ := slice_own HMD.out.ll
          rw [el9] at e12
          go_simp
          exact hK _ _ (chain_step HI.out hus hbs 10 undef (by show 10 < 11; decide) rfl hbp (none_of rfl) (AppPh.sto hch hown' hgrow3 hblk) (by simp only [puts, setAll, List.set_cons_zero, List.set_cons_succ, List.setIfInBounds_toArray]))
        exact Steps.nil
      · intro us w8 hus dd hD2 hJ
        obtain ⟨v0, v1, v2, v3, v4, v5, v6, v7, v8, v9, v10, rfl⟩ := len11 hus
        obtain ⟨w3', r, cap', ⟨w2', hb2', ho', hg', hr'⟩, rfl⟩ := hJ.ph.at_st (hD2 10 (by show 10 < 11; decide))
        have hdn := HMD.out.done HPX.out.2.2 hb2' (by rw [HPX.out.1, HPX.out.2.1]; exact ho') (by rw [HPX.out.1, HPX.out.2.1]; exact hg')
        obtain ⟨w9, hw9⟩ : ∃ w9, w3'.setCell ⟨bb, 2, none⟩ (.slice (some ⟨r, 0, none⟩) (ps.length + 1) cap') = w9 := ⟨_, rfl⟩
        rw [hw9] at hdn ⊢
        have HDN := Veil.mk (And.intro (HMW.out.1.trans hdn.1) hdn.2)
        have HSA := Veil.mk (same_any A bb mb (ps ++ [p]) _ _ _ _ _ (by rw [List.length_append]; simp; omega) w9 hdn.2)
        clear hJ hD2 hb2' ho' hg' hr' hdn hw9
        simp only [puts, setAll, List.set_cons_zero, List.set_cons_succ, List.setIfInBounds_toArray]
        go_wp2_with (first | (go_at_call 35; ((with_reducible refine HSA.out.mono ?_); rintro e8 w10 ⟨rfl, hb10⟩)))
        go_ret
        obtain ⟨d1, d2⟩ := HDN.out
        exact ⟨⟨_, rfl⟩, d1.trans (hb10.mono d2.ge), p, _, _, _, d2.on hb10⟩
end Go.Proofs.Ytkkbfadfgdjkdaa
