/- Package value and vm: objects by value; Array. -/
import Derived.Test.YtgdkjkfbknbgkaaGreatDoorVc
namespace Go.Proofs.YtgdkjkfbknbgkaaGreatDoor
open Go Go.RowKit

theorem object_mk (r : Int) (w : World) : Calls Tryz.prog 18 #[.int .i64 r] w fun e w' => e = .returned (valV (9, r, ⟨#[]⟩)) ∧ Below w.heap.size w w' := by
  obtain ⟨vb, hvb⟩ : ∃ vb, w.heap.size = vb := ⟨_, rfl⟩
  obtain ⟨W0, hW0⟩ : ∃ W0, w.alloc (.cells #[.int .i64 0, .int .i64 0, .string ⟨#[]⟩] 30) = W0 := ⟨_, rfl⟩
  have b1 := Box.new w 30 #[.int .i64 0, .int .i64 0, .string ⟨#[]⟩]
  have bb : Below w.heap.size w (w.alloc (.cells #[.int .i64 0, .int .i64 0, .string ⟨#[]⟩] 30)) := (Below.refl _ _).alloc (Nat.le_refl _) _
  rw [hW0] at b1 bb
  rw [hvb] at b1 bb ⊢
  have HW0 := Veil.mk (And.intro hW0 hvb)
  have HBB := Veil.mk (And.intro bb b1)
  have z0 : W0.cell? ⟨vb, 0, none⟩ = some (.int .i64 0) := b1.at_ 0
  have z1 : W0.cell? ⟨vb, 1, none⟩ = some (.int .i64 0) := b1.at_ 1
  have z2 : W0.cell? ⟨vb, 2, none⟩ = some (.string ⟨#[]⟩) := b1.at_ 2
  have f0 := b1.free 0
  have f1 := b1.free 1
  have f2 := b1.free 2
  clear hW0 hvb b1 bb
  go_enter Tryz.func18, Tryz.ntmps18
  go_upto_region 1 with (fail)
  rw [HW0.out.1, HW0.out.2]
  go_wp2
  have hr3 := ((HBB.out.2.put 0 (.int .i64 9)).put 1 (.int .i64 r)).put 2 (.string ⟨#[]⟩)
  have y0 := hr3.at_ 0
  have y1 := hr3.at_ 1
  have y2 := hr3.at_ 2
  exact bodyPost_ret (v := valV (9, r, ⟨#[]⟩)) (by simp [results, Tryz.results18, go_sem, y0, y1, y2]) rfl ⟨rfl, ((HBB.out.1.setCell (p := ⟨vb, 0, none⟩) (Nat.le_refl _) _).setCell (p := ⟨vb, 1, none⟩) (Nat.le_refl _) _).setCell (p := ⟨vb, 2, none⟩) (Nat.le_refl _) _⟩
set_option maxRecDepth 100000 in
theorem isobj_any (x : Vt) (w : World) : Calls Tryz.prog 47 #[valV x] w fun e w' => e = .returned (.bool (x.1 == 9)) ∧ Below w.heap.size w w' := by
  have b1 := Box.new w 30 #[.int .i64 x.1, .int .i64 x.2.1, .string x.2.2]
  have bb : Below w.heap.size w (w.alloc (.cells #[.int .i64 x.1, .int .i64 x.2.1, .string x.2.2] 30)) := (Below.refl _ _).alloc (Nat.le_refl _) _
  obtain ⟨kb, hkb⟩ : ∃ kb, w.heap.size = kb := ⟨_, rfl⟩
  obtain ⟨W0, hW0⟩ : ∃ W0, w.alloc (.cells #[.int .i64 x.1, .int .i64 x.2.1, .string x.2.2] 30) = W0 := ⟨_, rfl⟩
  rw [hW0] at b1 bb
  have HW0 := Veil.mk (And.intro hW0 hkb)
  rw [hkb] at b1
  have HBB := Veil.mk (And.intro bb b1)
  have x0 : W0.cell? ⟨kb, 0, none⟩ = some (.int .i64 x.1) := b1.at_ 0
  have x1 : W0.cell? ⟨kb, 1, none⟩ = some (.int .i64 x.2.1) := b1.at_ 1
  have x2 : W0.cell? ⟨kb, 2, none⟩ = some (.string x.2.2) := b1.at_ 2
  clear hW0 hkb b1 bb
  go_enter Tryz.func47, Tryz.ntmps47
  go_upto_region 1 with (fail)
  rw [HW0.out.1, HW0.out.2]
  go_wp2
  go_ret
  exact ⟨rfl, HBB.out.1⟩
set_option maxRecDepth 100000 in
theorem ref_9 (x : Vt) (hx : x.1 = 9) (w : World) : Calls Tryz.prog 48 #[valV x] w fun e w' => e = .returned (.int .i64 x.2.1) ∧ Below w.heap.size w w' := by
  have b1 := Box.new w 30 #[.int .i64 x.1, .int .i64 x.2.1, .string x.2.2]
  have bb : Below w.heap.size w (w.alloc (.cells #[.int .i64 x.1, .int .i64 x.2.1, .string x.2.2] 30)) := (Below.refl _ _).alloc (Nat.le_refl _) _
  obtain ⟨kb, hkb⟩ : ∃ kb, w.heap.size = kb := ⟨_, rfl⟩
  obtain ⟨W0, hW0⟩ : ∃ W0, w.alloc (.cells #[.int .i64 x.1, .int .i64 x.2.1, .string x.2.2] 30) = W0 := ⟨_, rfl⟩
  rw [hW0] at b1 bb
  have HW0 := Veil.mk (And.intro hW0 hkb)
  rw [hkb] at b1
  have HBB := Veil.mk (And.intro bb b1)
  have x0 : W0.cell? ⟨kb, 0, none⟩ = some (.int .i64 x.1) := b1.at_ 0
  have x1 : W0.cell? ⟨kb, 1, none⟩ = some (.int .i64 x.2.1) := b1.at_ 1
  have x2 : W0.cell? ⟨kb, 2, none⟩ = some (.string x.2.2) := b1.at_ 2
  clear hW0 hkb b1 bb
  rw [hx] at x0
  clear hx
  go_enter Tryz.func48, Tryz.ntmps48
  go_upto_region 1 with (fail)
  rw [HW0.out.1, HW0.out.2]
  go_wp2
  go_ret
  exact ⟨rfl, HBB.out.1⟩
set_option maxRecDepth 100000 in
theorem of_no (h : Nat) (x : Vt) (hx : (x.1 == 9) = false) (w : World) : Calls Tryz.prog 21 #[.pointer (some ⟨h, 0, none⟩), valV x] w fun e w' => e = .returned (.pointer none) ∧ Below w.heap.size w w' := by
  have HI := Veil.mk (fun w => isobj_any x w)
  rw [hx] at HI
  have b1 := Box.new w 30 #[.int .i64 x.1, .int .i64 x.2.1, .string x.2.2]
  have bb : Below w.heap.size w (w.alloc (.cells #[.int .i64 x.1, .int .i64 x.2.1, .string x.2.2] 30)) := (Below.refl _ _).alloc (Nat.le_refl _) _
  obtain ⟨kb, hkb⟩ : ∃ kb, w.heap.size = kb := ⟨_, rfl⟩
  obtain ⟨W0, hW0⟩ : ∃ W0, w.alloc (.cells #[.int .i64 x.1, .int .i64 x.2.1, .string x.2.2] 30) = W0 := ⟨_, rfl⟩
  rw [hW0] at b1 bb
  have HW0 := Veil.mk (And.intro hW0 hkb)
  rw [hkb] at b1
  have HBB := Veil.mk (And.intro bb b1)
  have x0 : W0.cell? ⟨kb, 0, none⟩ = some (.int .i64 x.1) := b1.at_ 0
  have x1 : W0.cell? ⟨kb, 1, none⟩ = some (.int .i64 x.2.1) := b1.at_ 1
  have x2 : W0.cell? ⟨kb, 2, none⟩ = some (.string x.2.2) := b1.at_ 2
  clear hW0 hkb b1 bb
  clear hx
  go_enter Tryz.func21, Tryz.ntmps21
  go_upto_region 1 with (fail)
  rw [HW0.out.1, HW0.out.2]
  go_wp2_with (go_at_call 47; ((with_reducible refine (HI.out _).mono ?_); rintro e w4 ⟨rfl, h4⟩))
  go_ret
  exact ⟨rfl, HBB.out.1.trans (h4.mono HBB.out.1.size)⟩
set_option maxRecDepth 100000 in
theorem of_yes (h o : Nat) (x : Vt) (hx : x.1 = 9) (w : World) (HO : Veil (∀ W, Below w.heap.size w W → Calls Tryz.prog 26 #[.pointer (some ⟨h, 0, none⟩), .int .i64 x.2.1] W fun e9 w' => e9 = .returned (.pointer (some ⟨o, 0, none⟩)) ∧ w' = W)) : Calls Tryz.prog 21 #[.pointer (some ⟨h, 0, none⟩), valV x] w fun e w' => e = .returned (.pointer (some ⟨o, 0, none⟩)) ∧ Below w.heap.size w w' := by
  have HI := Veil.mk (fun w => isobj_any x w)
  rw [show (x.1 == 9) = true by rw [hx]; rfl] at HI
  have HR := Veil.mk (fun w => ref_9 x hx w)
  have b1 := Box.new w 30 #[.int .i64 x.1, .int .i64 x.2.1, .string x.2.2]
  have bb : Below w.heap.size w (w.alloc (.cells #[.int .i64 x.1, .int .i64 x.2.1, .string x.2.2] 30)) := (Below.refl _ _).alloc (Nat.le_refl _) _
  obtain ⟨kb, hkb⟩ : ∃ kb, w.heap.size = kb := ⟨_, rfl⟩
  obtain ⟨W0, hW0⟩ : ∃ W0, w.alloc (.cells #[.int .i64 x.1, .int .i64 x.2.1, .string x.2.2] 30) = W0 := ⟨_, rfl⟩
  rw [hW0] at b1 bb
  have HW0 := Veil.mk (And.intro hW0 hkb)
  rw [hkb] at b1
  have HBB := Veil.mk (And.intro bb b1)
  have x0 : W0.cell? ⟨kb, 0, none⟩ = some (.int .i64 x.1) := b1.at_ 0
  have x1 : W0.cell? ⟨kb, 1, none⟩ = some (.int .i64 x.2.1) := b1.at_ 1
  have x2 : W0.cell? ⟨kb, 2, none⟩ = some (.string x.2.2) := b1.at_ 2
  clear hW0 hkb b1 bb
  clear hx
  go_enter Tryz.func21, Tryz.ntmps21
  go_upto_region 1 with (fail)
  rw [HW0.out.1, HW0.out.2]
  go_upto_region 3 with (go_at_call 47; ((with_reducible refine (HI.out _).mono ?_); rintro e w4 ⟨rfl, h4⟩))
  have HB4 := Veil.mk (HBB.out.1.trans (h4.mono HBB.out.1.size))
  have b4 := HBB.out.2.below h4
  have y0 : w4.cell? ⟨kb, 0, none⟩ = some (.int .i64 x.1) := b4.at_ 0
  have y1 : w4.cell? ⟨kb, 1, none⟩ = some (.int .i64 x.2.1) := b4.at_ 1
  have y2 : w4.cell? ⟨kb, 2, none⟩ = some (.string x.2.2) := b4.at_ 2
  clear h4 b4 x0 x1 x2
  go_wp2_with (first | (go_at_call 48; ((with_reducible refine (HR.out _).mono ?_); rintro e w5 ⟨rfl, h5⟩; have HB5 := Veil.mk (HB4.out.trans (h5.mono HB4.out.size)); clear h5)) | (go_at_call 26; ((with_reducible refine (HO.out _ HB5.out).mono ?_); rintro e w6 ⟨rfl, h6⟩; subst w6)))
  go_ret
  exact ⟨rfl, HB5.out⟩
theorem Kp.new {ts : List TypeId} {w w1 : World} (h : Kp ts w w1) {g : Nat} (hg : w.heap.size ≤ g) (i : Nat) (u : Value) : Kp ts w (w1.setCell ⟨g, i, none⟩ u) := fun k t hl ht => (Below.heap_setCell w1 ⟨g, i, none⟩ u k (fun e => by
  have e : k = g := e
  have := lab_lt hl
  omega)).trans (h k t hl ht)
section
variable {W W' : World} {h A m : Nat} {f : Nat → Int} {os : List OS}
theorem MM.of_ (H : MM W h A m f os) (i : Nat) (o : OS) (ho : os[i]? = some o) (s : ByteArray) : Calls Tryz.prog 21 #[.pointer (some ⟨h, 0, none⟩), valV (9, (i : Int) + 1, s)] W fun e w' => e = .returned (.pointer (some ⟨o.1, 0, none⟩)) ∧ Below W.heap.size W w' :=
  of_yes h o.1 (9, (i : Int) + 1, s) rfl W ⟨fun _ hb => (H.on hb).obj i o ho⟩
abbrev mmT : List TypeId := [61, 99, 102, 155, 137, 3]
theorem own_kp {ts : List TypeId} {w w' : World} {B n size : Nat} {v : Value} {xs : List Value} {e : TypeId} (h : w.ownsRow B e size v n xs) (hk : Kp ts w w') (ht : ts.contains e = false) : w'.ownsRow B e size v n xs := by
  refine ⟨h.1, ?_⟩
  rcases h.2 with h2 | ⟨g, cap, cur, e1, e2, e3, e4⟩
  · exact .inl h2
  · exact .inr ⟨g, cap, cur, e1, e2, (hk g e ⟨cur, _, e3⟩ ht).trans e3, e4⟩
theorem MM.kp {ts : List TypeId} (H : MM W h A m f os) (hk : Kp ts W W') (ht : ∀ t ∈ mmT, ts.contains t = false) : MM W' h A m f os := by
  obtain ⟨⟨cv, fv, rv, hp⟩, mb, ob, am, al, nd⟩ := H
  refine ⟨⟨cv, fv, rv, hk.box hp.hb (ht _ (by simp)), ⟨hk.box hp.ar.box (ht _ (by simp)), own_kp hp.ar.co hk (ht _ (by simp)), own_kp hp.ar.fo hk (ht _ (by simp)), own_kp hp.ar.ro hk (ht _ (by simp)), hp.ar.ap, hp.ar.ha⟩, hp.hB⟩, hk.box mb (ht _ (by simp)), fun o ho => hk.box (ob o ho) (ht _ (by simp)), am, al, nd⟩
/-- A cell of an object is written. -/
theorem MM.setObj {b : Nat} {cs : Array Value} {os1 os2 : List OS} (H : MM W h A m f (os1 ++ (b, cs) :: os2)) (j : Nat) (u : Value) : MM (W.setCell ⟨b, j, none⟩ u) h A m f (os1 ++ (b, cs.setIfInBounds j u) :: os2) := by
  obtain ⟨⟨cv, fv, rv, hp⟩, mb, ob, am, al, nd⟩ := H
  have hb := ob (b, cs) (by simp)
  have ht : Touch (fun k => k = b) W (W.setCell ⟨b, j, none⟩ u) := Touch.put (S := fun k => k = b) rfl _ _
  have nd2 : ∀ o ∈ os1 ++ os2, o.1 ≠ b := fun o ho e => by
    rw [List.map_append, List.map_cons] at nd
    obtain ⟨-, n2, n3⟩ := List.nodup_append.1 nd
    have n2 := (List.nodup_cons.1 n2).1
    rcases List.mem_append.1 ho with h9 | h9
    · exact n3 o.1 (List.mem_map.2 ⟨o, h9, rfl⟩) b (by simp) e
    · exact n2 (List.mem_map.2 ⟨o, h9, e⟩)
  refine ⟨⟨cv, fv, rv, ?_⟩, mb.touch ht (fun e => mb.lab.ne hb.lab (by decide) e), fun o ho => ?_, am, fun o ho => ?_, ?_⟩
  · have e1 : ((os1 ++ (b, cs.setIfInBounds j u) :: os2).map fun o => some (40, o.1)) = ((os1 ++ (b, cs) :: os2).map fun o => some (40, o.1)) := by simp
    have e2 : (os1 ++ (b, cs.setIfInBounds j u) :: os2).length = (os1 ++ (b, cs) :: os2).length := by simp
    rw [e1, e2]
    refine ⟨hp.hb.touch ht (fun e => hp.hb.lab.ne hb.lab (by decide) e), hp.ar.touch ht (fun k hk e => ?_), hp.hB⟩
    subst e
    exact AFoot.lab hp.ar hb.lab (by decide) (by decide) (by decide) hk
  · have : o = (b, cs.setIfInBounds j u) ∨ o ∈ os1 ++ os2 := by
      simp only [List.mem_append, List.mem_cons] at ho ⊢
      rcases ho with h9 | h9 | h9 <;> simp [h9]
    rcases this with rfl | h9
    · exact hb.put j u
    · refine (ob o ?_).touch ht (nd2 o h9)
      simp only [List.mem_append, List.mem_cons] at h9 ⊢
      rcases h9 with h9 | h9 <;> simp [h9]
  · have : o.1 = b ∨ o ∈ os1 ++ os2 := by
      simp only [List.mem_append, List.mem_cons] at ho ⊢
      rcases ho with h9 | h9 | h9 <;> simp [h9]
    rcases this with e | h9
    · rw [e]; exact al (b, cs) (by simp)
    · refine al o ?_
      simp only [List.mem_append, List.mem_cons] at h9 ⊢
      rcases h9 with h9 | h9 <;> simp [h9]
  · have e1 : (os1 ++ (b, cs.setIfInBounds j u) :: os2).map Prod.fst = (os1 ++ (b, cs) :: os2).map Prod.fst := by simp
    rw [e1]
    exact nd
set_option maxHeartbeats 1000000 in
set_option maxRecDepth 100000 in
/-- An array of these values. -/
theorem MM.array (H : MM W h A m f os) (sv : Value) (l : List Vt) (hr : RowV W sv l) (hl : l.length ≤ 10000) (hn : os.length < 1000000) : Calls Tryz.prog 24 #[.pointer (some ⟨m, 0, none⟩), sv] W fun e w' => e = .returned (valV (9, (os.length : Int) + 1, ⟨#[]⟩)) ∧ ∃ b ev, W.heap.size ≤ b ∧ MM w' h A m f (os ++ [(b, objC 1 (f 2) false (.pointer none) ev)]) ∧ RowV w' ev l ∧ Below A W w' ∧ Kp arT W w' ∧ Kq A W w' ∧ ∀ ad n cap, ev = .slice (some ad) n cap → W.heap.size < ad.block := by
  obtain ⟨ao, ca, rfl, hr2⟩ := hr
  have HRW : Veil (RowV W (.slice ao l.length ca) l) := ⟨ao, ca, rfl, hr2⟩
  clear hr2
  obtain ⟨vb, hvb⟩ : ∃ vb, W.heap.size = vb := ⟨_, rfl⟩
  obtain ⟨W0, hW0⟩ : ∃ W0, W.alloc (.cells #[.int .i64 0, .int .i64 0, .string ⟨#[]⟩] 30) = W0 := ⟨_, rfl⟩
  have b1 := Box.new W 30 #[.int .i64 0, .int .i64 0, .string ⟨#[]⟩]
  have bb : Below W.heap.size W (W.alloc (.cells #[.int .i64 0, .int .i64 0, .string ⟨#[]⟩] 30)) := (Below.refl _ _).alloc (Nat.le_refl _) _
  rw [hW0] at b1 bb
  rw [hvb] at b1
  have HW0 := Veil.mk (And.intro hW0 hvb)
  have H0 := Veil.mk (H.on bb)
  have HPR : Veil (Calls Tryz.prog 54 #[.pointer (some ⟨m, 0, none⟩), .int .i64 2] W0 fun e w' => e = .returned (.int .i64 (f 2)) ∧ w' = W0) := ⟨H0.out.proto_any 2 (by decide)⟩
  have HCR := Veil.mk (H0.out.create 1 (f 2) hn)
  have HAT : Veil (A < W.heap.size) := ⟨H.alt⟩
  have HAM : Veil (A ≤ m ∧ m < W.heap.size) := ⟨H.am, H.mb.lt⟩
  have HX := Veil.mk (And.intro b1 bb)
  have hle : ¬ (10000 : Int) < (l.length : Int) := by omega
  obtain ⟨n, hn2⟩ : ∃ n, l.length = n := ⟨_, rfl⟩
  have HN := Veil.mk hn2
  rw [hn2] at HRW hle ⊢
  clear hW0 hvb b1 bb H hn2 hl hn
  go_enter Tryz.func24, Tryz.ntmps24
  go_upto_region 1 with (fail)
  rw [HW0.out.1, HW0.out.2]
  go_upto_region 7 with (first | (go_at_call 54; ((with_reducible refine HPR.out.mono ?_); rintro e w1 ⟨rfl, h1⟩; subst w1)) | (go_at_call 53; ((with_reducible refine HCR.out.mono ?_); rintro e w2 ⟨rfl, hm2, hb2, hk2, hq2⟩)))
  have HKQ2 := Veil.mk ((Kq.of_below HAT.out HX.out.2).trans hq2)
  clear hq2
  have HQ2 := Veil.mk (And.intro hm2 (And.intro ((HX.out.2.mono (by have := HAM.out; omega)).trans hb2) ((Kp.of_below HX.out.2).trans hk2)))
  have HC2 := Veil.mk (clone_v (.slice ao n ca) l (by have := HN.out; omega) w2 (HRW.out.kp HQ2.out.2.2 rfl))
  have bv2 := hk2.box HX.out.1 rfl
  have bo2 : Box w2 W0.heap.size 99 (obj0 1 (f 2)) := hm2.ob (W0.heap.size, obj0 1 (f 2)) (by simp)
  have HB2 := Veil.mk (And.intro bv2 bo2)
  obtain ⟨ob, hob⟩ : ∃ ob, W0.heap.size = ob := ⟨_, rfl⟩
  rw [hob] at HB2 HQ2 ⊢
  have HOB := Veil.mk hob
  clear hob
  clear hm2 hb2 hk2 bv2 bo2 HPR HCR
  skip
  go_upto_region 8 with (go_at_call 55; ((with_reducible refine HC2.out.mono ?_); rintro e w3 ⟨v, rfl, hb3, hv3, hg3⟩; have HG3 := Veil.mk hg3; clear hg3; have HB3 := Veil.mk (And.intro hb3 (And.intro hv3 (And.intro (HB2.out.1.below hb3) (HB2.out.2.below hb3)))); have o4 : w3.cell? ⟨ob, 4, none⟩ = some (.slice none 0 0) := HB3.out.2.2.2.at_ 4; have of4 := HB3.out.2.2.2.free 4; obtain ⟨a9, c9, hv9, -⟩ := HB3.out.2.1; subst hv9; clear hb3 hv3))
  have HM4 := Veil.mk ((HQ2.out.1.on HB3.out.1).setObj (os1 := os) (os2 := []) 4 (.slice a9 l.length c9))
  have ht4 : Touch (fun k => k = ob) w3 (w3.setCell ⟨ob, 4, none⟩ (.slice a9 l.length c9)) := Touch.put (S := fun k => k = ob) rfl _ _
  have HV4 : Veil (Box (w3.setCell ⟨ob, 4, none⟩ (.slice a9 l.length c9)) vb 30 #[.int .i64 0, .int .i64 0, .string ⟨#[]⟩]) := ⟨HB3.out.2.2.1.touch ht4 (fun e => HB3.out.2.2.1.lab.ne HB3.out.2.2.2.lab (by decide) e)⟩
  have HR4 : Veil (RowV (w3.setCell ⟨ob, 4, none⟩ (.slice a9 l.length c9)) (.slice a9 l.length c9) l) := ⟨HB3.out.2.1.kp (Kp.put (ts := [99]) HB3.out.2.2.2.lab rfl _ _) rfl⟩
  have HK4 : Veil (Below A W (w3.setCell ⟨ob, 4, none⟩ (.slice a9 l.length c9)) ∧ Kp arT W (w3.setCell ⟨ob, 4, none⟩ (.slice a9 l.length c9)) ∧ Kq A W (w3.setCell ⟨ob, 4, none⟩ (.slice a9 l.length c9))) := by
    have hA : A ≤ W.heap.size := by have := HAM.out; omega
    have ho : W.heap.size ≤ ob := by rw [← HOB.out]; exact HX.out.2.size
    have hb3 := HQ2.out.2.1.trans (HB3.out.1.mono (Nat.le_trans hA HQ2.out.2.1.size))
    exact ⟨hb3.setCell (p := ⟨ob, 4, none⟩) (by show A ≤ ob; omega) _, (HQ2.out.2.2.trans (Kp.of_below HB3.out.1)).new ho _ _, (HKQ2.out.trans (Kq.of_below (Nat.lt_of_lt_of_le HAT.out HKQ2.out.size) HB3.out.1)).new HAT.out ho _ _⟩
  have HG4 : Veil (∀ ad n cap, Value.slice a9 l.length c9 = .slice (some ad) n cap → vb < ad.block) := ⟨fun ad n cap e => by
    have h1 := HG3.out ad n cap e
    have h2 := HB2.out.1.lt
    omega⟩
  clear ht4 HB3 HB2 HQ2 HC2 H0 HG3 HRW o4 of4
  generalize (w3.setCell ⟨ob, 4, none⟩ (.slice a9 l.length c9)) = w4 at HM4 HV4 HR4 HK4 ⊢
  have HVO := Veil.mk (object_mk ((os.length : Int) + 1) w4)
  go_wp2_with (go_at_call 18; ((with_reducible refine HVO.out.mono ?_); rintro e w5 ⟨rfl, hb5⟩; have HB5 := Veil.mk (And.intro hb5 (HV4.out.below hb5)); have v0 : w5.cell? ⟨vb, 0, none⟩ = some (.int .i64 0) := HB5.out.2.at_ 0; have v1 : w5.cell? ⟨vb, 1, none⟩ = some (.int .i64 0) := HB5.out.2.at_ 1; have v2 : w5.cell? ⟨vb, 2, none⟩ = some (.string ⟨#[]⟩) := HB5.out.2.at_ 2; have g0 := HB5.out.2.free 0; have g1 := HB5.out.2.free 1; have g2 := HB5.out.2.free 2; clear hb5))
  have hr6 := ((HB5.out.2.put 0 (.int .i64 9)).put 1 (.int .i64 ((os.length : Int) + 1))).put 2 (.string ⟨#[]⟩)
  have y0 := hr6.at_ 0
  have y1 := hr6.at_ 1
  have y2 := hr6.at_ 2
  have hA : A ≤ W.heap.size := by have := HAM.out; omega
  have hvb : W.heap.size = vb := HW0.out.2
  have kx : Kp [30] w5 (((w5.setCell ⟨vb, 0, none⟩ (.int .i64 9)).setCell ⟨vb, 1, none⟩ (.int .i64 ((os.length : Int) + 1))).setCell ⟨vb, 2, none⟩ (.string ⟨#[]⟩)) := ((Kp.put HB5.out.2.lab rfl _ _).trans (Kp.put (HB5.out.2.put 0 _).lab rfl _ _)).trans (Kp.put ((HB5.out.2.put 0 _).put 1 _).lab rfl _ _)
  have hm6 := ((HM4.out.on HB5.out.1).kp kx (by decide))
  refine bodyPost_ret (v := valV (9, (os.length : Int) + 1, ⟨#[]⟩)) (by simp [results, Tryz.results24, go_sem, y0, y1, y2]) rfl ⟨rfl, ob, _, by rw [← HOB.out]; exact HX.out.2.size, hm6, ?_, ?_, ?_, ?_, ?_⟩
  · have hG : ∀ ad n cap, Value.slice a9 l.length c9 = .slice (some ad) n cap → ad.block ≠ vb := fun ad n cap e => by have := HG4.out ad n cap e; omega
    exact (((HR4.out.on HB5.out.1).put vb _ _ hG).put vb _ _ hG).put vb _ _ hG
  · exact (((HK4.out.1.trans (HB5.out.1.mono (Nat.le_trans hA HK4.out.1.size))).setCell (p := ⟨vb, 0, none⟩) (by show A ≤ vb; omega) _).setCell (p := ⟨vb, 1, none⟩) (by show A ≤ vb; omega) _).setCell (p := ⟨vb, 2, none⟩) (by show A ≤ vb; omega) _
  · exact (((HK4.out.2.1.trans (Kp.of_below HB5.out.1)).new (by omega) _ _).new (by omega) _ _).new (by omega) _ _
  · exact (((HK4.out.2.2.trans (Kq.of_below (Nat.lt_of_lt_of_le HAT.out HK4.out.2.2.size) HB5.out.1)).new HAT.out (by omega) _ _).new HAT.out (by omega) _ _).new HAT.out (by omega) _ _
  · intro ad n cap e
    rw [hvb]
    exact HG4.out ad n cap e
end
end Go.Proofs.YtgdkjkfbknbgkaaGreatDoor
