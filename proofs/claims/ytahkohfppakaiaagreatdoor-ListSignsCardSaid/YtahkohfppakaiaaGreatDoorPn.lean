/- ListSigns holds: for every sequence of units it returns true; no condition beyond the row (the listed tables lie as the program lays them). -/
import Derived.Test.YtahkohfppakaiaaGreatDoorPm
import Derived.Test.YtahkohfppakaiaaGreatDoorPb
import Derived.Deep.AppendLies
import Derived.Deep.RegionLaw
import Derived.RangeFuncFrom
namespace Go.Proofs.YtahkohfppakaiaaGreatDoor
open Go Go.RowKit
attribute [local go_sem] Oper.semAt_some
section
variable {W : World} {h A m : Nat} {f : MF} {ts : List TO}
set_option maxHeartbeats 16000000 in
set_option maxRecDepth 100000 in
theorem MP.adv_str (H : MP W h A m f ts) {iw o g i n : Nat} {kd : Int} {s z : ByteArray} {cp : Int} (hp : ts[iw]? = some (TO.wkr o kd (.slice (some ⟨g, 0, none⟩) 1 1) (i : Int))) (hg : Box W g VTy #[.int .i64 7, .int .i64 0, .string s]) (hs : s.size <= 16777216) (hi : i < s.size / 2) (hn : n <= 2)
  (HPT : Veil (∀ w', Calls Tryz.prog 376 #[.string s, .int .i64 (i : Int)] w' fun e w9 => e = .returned (.tuple #[.int .i32 cp, .int .i64 (n : Int)]) /\ Below w'.heap.size w' w9))
  (HSB : Veil (∀ w', Calls Tryz.prog 139 #[.string s, .int .i64 (i : Int), .int .i64 ((i : Int) + (n : Int))] w' fun e w9 => e = .returned (.string z) /\ Below w'.heap.size w' w9)) :
  Calls Tryz.prog 365 #[.pointer (some ⟨m, 0, none⟩), .pointer (some ⟨o, 0, none⟩)] W fun e w' => e = .returned (.tuple #[valV (3, (i : Int), ⟨#[]⟩), valV (7, 0, z), .int .i64 0]) /\ MP w' h A m f (ts.set iw (TO.wkr o kd (.slice (some ⟨g, 0, none⟩) 1 1) ((i : Int) + (n : Int)))) /\ Bk A W w' := by
 have hA := Nat.le_of_lt H.mm.alt
 have hob : Box W o 63 (objF 5 12 false (.pointer none) (.slice none 0 0) .nilIface ⟨kd, .slice (some ⟨g, 0, none⟩) 1 1, (i : Int), false⟩) := H.mem_b (List.mem_of_getElem? hp) rfl
 obtain ⟨ka, hka⟩ : ∃ ka, W.heap.size = ka := ⟨_, rfl⟩
 obtain ⟨kb, hkb⟩ : ∃ kb, ka + 1 = kb := ⟨_, rfl⟩
 obtain ⟨W0, hW0⟩ : ∃ W0, ((W.alloc (.cells #[.int .i64 0, .int .i64 0, .string ⟨#[]⟩] 28)).alloc (.cells #[.int .i64 0, .int .i64 0, .string ⟨#[]⟩] 28)) = W0 := ⟨_, rfl⟩
 have bb : Below W.heap.size W W0 := by rw [<- hW0]; exact (((Below.refl _ _).alloc (Nat.le_refl _) _).alloc (by simp only [World.size_alloc]; omega) _)
 have xka : Box W0 ka 28 #[.int .i64 0, .int .i64 0, .string ⟨#[]⟩] := by have h9 := ((Box.new W 28 #[.int .i64 0, .int .i64 0, .string ⟨#[]⟩]).more (.cells #[.int .i64 0, .int .i64 0, .string ⟨#[]⟩] 28)); rw [hW0, hka] at h9; exact h9
 have xkb : Box W0 kb 28 #[.int .i64 0, .int .i64 0, .string ⟨#[]⟩] := by have h9 := Box.new (W.alloc (.cells #[.int .i64 0, .int .i64 0, .string ⟨#[]⟩] 28)) 28 #[.int .i64 0, .int .i64 0, .string ⟨#[]⟩]; rw [hW0, show (W.alloc (.cells #[.int .i64 0, .int .i64 0, .string ⟨#[]⟩] 28)).heap.size = kb from by simp only [World.size_alloc]; omega] at h9; exact h9
 have HW0 := Veil.mk (And.intro hW0 (And.intro hka (hkb)))
 have HBB := Veil.mk (And.intro bb (And.intro xka (xkb)))
 have HLO : Veil (W.heap.size <= ka /\ W.heap.size <= kb) := ⟨by omega⟩
 clear hW0 bb hka xka hkb xkb
 have HP0 := Veil.mk (H.on HBB.out.1)
 have HPL := Veil.mk (And.intro hp hA)
 have ho0 := hob.below HBB.out.1
 have hg0 := hg.below HBB.out.1
 have HG0 := Veil.mk (And.intro ho0 hg0)
 have HLN : Veil (∀ w', Calls Tryz.prog 80 #[.string s] w' fun e w9 => e = .returned (.int .i64 ((s.size : Int) / 2)) /\ Below w'.heap.size w' w9) := ⟨fun w' => (Go.Proofs.YtahkohfppakaiaaGreatDoor.W.len_any s hs w').mono fun e w9 h9 => ⟨h9.1, by rw [<- h9.2]; exact Below.refl _ _⟩⟩
 have hi0 : (0 : Int) <= (i : Int) := by omega
 have hi1 : (i : Int) < (s.size : Int) / 2 := by omega
 have hi2 : (i : Int) <= 8388608 := by omega
 have hn0 : (0 : Int) <= (n : Int) := by omega
 have hn2 : (n : Int) <= 2 := by omega
 have hwr : IntKind.i64.wrap ((i : Int) + (n : Int)) = (i : Int) + (n : Int) := IntWalk.i64_in _ (by omega)
 have d5 : W0.cell? ⟨o, 5, none⟩ = some (.slice (some ⟨g, 0, none⟩) 1 1) := ho0.at_ 5
 have d7 : W0.cell? ⟨o, 7, none⟩ = some (.pointer none) := ho0.at_ 7
 have c0 : W0.cell? ⟨g, 0, none⟩ = some (.int .i64 7) := hg0.at_ 0
 have c1 : W0.cell? ⟨g, 1, none⟩ = some (.int .i64 0) := hg0.at_ 1
 have c2 : W0.cell? ⟨g, 2, none⟩ = some (.string s) := hg0.at_ 2
 clear H hp hg hs hi hn hA hob ho0 hg0
 go_enter Tryz.func365, Tryz.ntmps365
 go_upto_region 1 with (fail)
 rw [HW0.out.1, HW0.out.2.1, HW0.out.2.2]
 go_upto_region 4 with (fail)
 obtain ⟨vb, hvb⟩ : ∃ vb, W0.heap.size = vb := ⟨_, rfl⟩
 obtain ⟨W2, hW2⟩ : ∃ W2, W0.alloc (.cells #[.int .i64 7, .int .i64 0, .string s] 28) = W2 := ⟨_, rfl⟩
 have bx := Box.new W0 28 #[.int .i64 7, .int .i64 0, .string s]
 have bl : Below W0.heap.size W0 (W0.alloc (.cells #[.int .i64 7, .int .i64 0, .string s] 28)) := (Below.refl _ _).alloc (Nat.le_refl _) _
 rw [hW2] at bx bl ⊢
 rw [hvb] at bx ⊢
 have HB2 := Veil.mk (And.intro bl bx)
 clear c0 c1 c2 d5 d7 hvb hW2 bl bx
 have d7 : W2.cell? ⟨o, 7, none⟩ = some (.pointer none) := (HG0.out.1.below HB2.out.1).at_ 7
 go_upto_region 9 with (fail)
 obtain ⟨WD, hWD⟩ : ∃ WD, W2.drew = WD := ⟨_, rfl⟩
 have hdr : Below W2.heap.size W2 WD := by rw [<- hWD]; exact (Below.refl _ _).drew
 have hbD := blw2 HB2.out.1 hdr
 have HBX := Veil.mk (And.intro (HBB.out.2.1.below hbD) (And.intro (HBB.out.2.2.below hbD) (And.intro (HB2.out.2.below hdr) (And.intro (HG0.out.1.below hbD) (show ∀ w', Below WD.heap.size WD w' -> w'.cell? ⟨m, 0, none⟩ = some (.pointer (some ⟨h, 0, none⟩)) from fun w' hb => ((HP0.out.on hbD).on hb).mm.mb.at_ 0)))))
 have HBF := Veil.mk hbD
 have HWD := Veil.mk hWD
 clear hWD hdr hbD d7 HB2 HG0
 refine wp_region_chain (some (· = .pointer (some ⟨m, 0, none⟩)) :: some (· = .pointer (some ⟨m, 0, none⟩)) :: some (· = .pointer (some ⟨m, 0, none⟩)) :: some (· = .pointer (some ⟨h, 0, none⟩)) :: some (· = valV (7, 0, s)) :: some (· = .pointer none) :: some (· = .pointer none) :: [] : List (Option (Value -> Prop))) (QT WD) [some 56, some 57, some 58, some 59, some 60, some 61, some 12] (curV' _ [some 56, some 57, some 58, some 59, some 60, some 61, some 12]) (by kernel_rfl) rfl rfl (puts_cur _ _) (by rw [HWD.out]; exact QT.start) ?_ (by kernel_rfl) ?_
 ·refine SC rfl (fun bb aa w' us hus ha hI hbs hb0 hbp K hK => ?_) ?_
  ·obtain ⟨u0, u1, u2, u3, u4, u5, u6, rfl⟩ := lenA7 hus
   have HI := Veil.mk hI; clear hI; rw [pin ha]
   go_simp
   exact kSv hK HI hus hbs 0 _ rfl rfl hbp rfl rfl (HI.out.ph.pure 0 _)
  refine SC rfl (fun bb aa w' us hus ha hI hbs hb0 hbp K hK => ?_) ?_
  ·obtain ⟨u0, u1, u2, u3, u4, u5, u6, rfl⟩ := lenA7 hus
   have e0 : u0 = .pointer (some ⟨m, 0, none⟩) := hI.vl 0 rfl hbp; subst e0
   have HI := Veil.mk hI; clear hI; rw [pin ha]
   go_simp
   exact kSv hK HI hus hbs 1 _ rfl rfl hbp rfl rfl (HI.out.ph.pure 1 _)
  refine SC rfl (fun bb aa w' us hus ha hI hbs hb0 hbp K hK => ?_) ?_
  ·obtain ⟨u0, u1, u2, u3, u4, u5, u6, rfl⟩ := lenA7 hus
   have e1 : u1 = .pointer (some ⟨m, 0, none⟩) := hI.vl 1 rfl hbp; subst e1
   have HI := Veil.mk hI; clear hI; rw [pin ha]
   go_simp
   exact kSv hK HI hus hbs 2 _ rfl rfl hbp rfl rfl (HI.out.ph.pure 2 _)
  refine SC rfl (fun bb aa w' us hus ha hI hbs hb0 hbp K hK => ?_) ?_
  ·obtain ⟨u0, u1, u2, u3, u4, u5, u6, rfl⟩ := lenA7 hus
   have e2 : u2 = .pointer (some ⟨m, 0, none⟩) := hI.vl 2 rfl hbp; subst e2
   have hbl := hI.ph.b
   have c0 : w'.cell? ⟨m, 0, none⟩ = some (.pointer (some ⟨h, 0, none⟩)) := HBX.out.2.2.2.2 w' hbl
   clear hbl
   have HI := Veil.mk hI; clear hI; rw [pin ha]
   go_simp
   exact kSv hK HI hus hbs 3 _ rfl rfl hbp rfl rfl (HI.out.ph.pure 3 _)
  refine SC rfl (fun bb aa w' us hus ha hI hbs hb0 hbp K hK => ?_) ?_
  ·obtain ⟨u0, u1, u2, u3, u4, u5, u6, rfl⟩ := lenA7 hus
   have hbl := hI.ph.b
   have c0 : w'.cell? ⟨vb, 0, none⟩ = some (.int .i64 7) := (HBX.out.2.2.1.below hbl).at_ 0
   have c1 : w'.cell? ⟨vb, 1, none⟩ = some (.int .i64 0) := (HBX.out.2.2.1.below hbl).at_ 1
   have c2 : w'.cell? ⟨vb, 2, none⟩ = some (.string s) := (HBX.out.2.2.1.below hbl).at_ 2
   clear hbl
   have HI := Veil.mk hI; clear hI; rw [pin ha]
   go_simp
   exact kSv hK HI hus hbs 4 _ rfl rfl hbp rfl rfl (HI.out.ph.pure 4 _)
  refine SC rfl (fun bb aa w' us hus ha hI hbs hb0 hbp K hK => ?_) ?_
  ·obtain ⟨u0, u1, u2, u3, u4, u5, u6, rfl⟩ := lenA7 hus
   have e3 : u3 = .pointer (some ⟨h, 0, none⟩) := hI.vl 3 rfl hbp; subst e3
   have e4 : u4 = valV (7, 0, s) := hI.vl 4 rfl hbp; subst e4
   have HI := Veil.mk hI; clear hI; rw [pin ha]
   go_simp
   go_at_call 14
   refine (of_no h (7, 0, s) rfl _).mono ?_
   rintro e9 w9 ⟨rfl, hm9⟩
   go_simp
   exact kSv hK HI hus hbs 5 _ rfl rfl hbp rfl rfl (HI.out.ph.quiet 5 _ hm9)
  refine SC rfl (fun bb aa w' us hus ha hI hbs hb0 hbp K hK => ?_) ?_
  ·obtain ⟨u0, u1, u2, u3, u4, u5, u6, rfl⟩ := lenA7 hus
   have e5 : u5 = .pointer none := hI.vl 5 rfl hbp; subst e5
   have HI := Veil.mk hI; clear hI; rw [pin ha]
   go_simp
   exact kSv hK HI hus hbs 6 _ rfl rfl hbp rfl rfl (HI.out.ph.pure 6 _)
  exact Steps.nil
 ·intro us wE hus dd hD2 hJ
  obtain ⟨p0, p1, p2, p3, p4, p5, p6, rfl⟩ := lenA7 hus
  have hph := hJ.ph
  have e0 : p0 = .pointer (some ⟨m, 0, none⟩) := hJ.ve 0 rfl rfl hD2; subst e0
  have e1 : p1 = .pointer (some ⟨m, 0, none⟩) := hJ.ve 1 rfl rfl hD2; subst e1
  have e2 : p2 = .pointer (some ⟨m, 0, none⟩) := hJ.ve 2 rfl rfl hD2; subst e2
  have e3 : p3 = .pointer (some ⟨h, 0, none⟩) := hJ.ve 3 rfl rfl hD2; subst e3
  have e4 : p4 = valV (7, 0, s) := hJ.ve 4 rfl rfl hD2; subst e4
  have e5 : p5 = .pointer none := hJ.ve 5 rfl rfl hD2; subst e5
  have e6 : p6 = .pointer none := hJ.ve 6 rfl rfl hD2; subst e6
  clear hJ
  have HQ := Veil.mk hph.b
  clear hph hD2
  simp only [puts, setAll, List.setIfInBounds_toArray, List.set_cons_zero, List.set_cons_succ]
  go_upto_region 10 with (fail)
  go_quiet (fail)
  go_upto_region 15 with (fail)
  obtain ⟨WD, hWD⟩ : ∃ WD, (wE.drewN nq).drew = WD := ⟨_, rfl⟩
  have hdr : Below (wE.drewN nq).heap.size (wE.drewN nq) WD := by rw [<- hWD]; exact (Below.refl _ _).drew
  have hb9 := blw2 (show Below _ _ (wE.drewN nq) from HQ.out.trans ⟨rfl, rfl, rfl, Nat.le_refl _, fun _ _ => rfl⟩) hdr
  have HBX := Veil.mk (And.intro (HBX.out.1.below hb9) (And.intro (HBX.out.2.1.below hb9) (And.intro (HBX.out.2.2.1.below hb9) (And.intro (HBX.out.2.2.2.1.below hb9) (show ∀ w', Below WD.heap.size WD w' -> w'.cell? ⟨m, 0, none⟩ = some (.pointer (some ⟨h, 0, none⟩)) from fun w' hb => HBX.out.2.2.2.2 w' (hb9.trans (hb.mono hb9.size)))))))
  have HBF := Veil.mk (blw2 HBF.out hb9)
  have HWD := Veil.mk hWD
  clear hWD hdr hb9
  clear HQ
  refine wp_region_chain (some (· = .pointer (some ⟨vb, 0, none⟩)) :: some (· = .int .i64 7) :: some (· = (.bool true)) :: some (· = (.bool true)) :: some (· = .pointer (some ⟨o, 0, none⟩)) :: some (· = .pointer (some ⟨o, 0, none⟩)) :: some (· = .pointer (some ⟨o, 14, none⟩)) :: some (· = .int .i64 (i : Int)) :: some (· = .pointer (some ⟨vb, 2, none⟩)) :: some (· = .string s) :: some (· = .int .i64 ((s.size : Int) / 2)) :: some (· = (.bool true)) :: some (· = (.bool true)) :: [] : List (Option (Value -> Prop))) (QT WD) [some 105, some 106, some 107, some 108, some 109, some 110, some 111, some 112, some 113, some 114, some 115, some 116, some 117] (curV' _ [some 105, some 106, some 107, some 108, some 109, some 110, some 111, some 112, some 113, some 114, some 115, some 116, some 117]) (by kernel_rfl) rfl rfl (puts_cur _ _) (by rw [HWD.out]; exact QT.start) ?_ (by kernel_rfl) ?_
  ·refine SC rfl (fun bb aa w' us hus ha hI hbs hb0 hbp K hK => ?_) ?_
   ·obtain ⟨u0, u1, u2, u3, u4, u5, u6, u7, u8, u9, u10, u11, u12, rfl⟩ := lenA13 hus
    have HI := Veil.mk hI; clear hI; rw [pin ha]
    go_simp
    exact kSv hK HI hus hbs 0 _ rfl rfl hbp rfl rfl (HI.out.ph.pure 0 _)
   refine SC rfl (fun bb aa w' us hus ha hI hbs hb0 hbp K hK => ?_) ?_
   ·obtain ⟨u0, u1, u2, u3, u4, u5, u6, u7, u8, u9, u10, u11, u12, rfl⟩ := lenA13 hus
    have e0 : u0 = .pointer (some ⟨vb, 0, none⟩) := hI.vl 0 rfl hbp; subst e0
    have hbl := hI.ph.b
    have c0 : w'.cell? ⟨vb, 0, none⟩ = some (.int .i64 7) := (HBX.out.2.2.1.below hbl).at_ 0
    clear hbl
    have HI := Veil.mk hI; clear hI; rw [pin ha]
    go_simp
    exact kSv hK HI hus hbs 1 _ rfl rfl hbp rfl rfl (HI.out.ph.pure 1 _)
   refine SC rfl (fun bb aa w' us hus ha hI hbs hb0 hbp K hK => ?_) ?_
   ·obtain ⟨u0, u1, u2, u3, u4, u5, u6, u7, u8, u9, u10, u11, u12, rfl⟩ := lenA13 hus
    have e1 : u1 = .int .i64 7 := hI.vl 1 rfl hbp; subst e1
    have HI := Veil.mk hI; clear hI; rw [pin ha]
    go_simp
    exact kSv hK HI hus hbs 2 _ rfl rfl hbp rfl rfl (HI.out.ph.pure 2 _)
   refine SC rfl (fun bb aa w' us hus ha hI hbs hb0 hbp K hK => ?_) ?_
   ·obtain ⟨u0, u1, u2, u3, u4, u5, u6, u7, u8, u9, u10, u11, u12, rfl⟩ := lenA13 hus
    have e2 : u2 = (.bool true) := hI.vl 2 rfl hbp; subst e2
    have HI := Veil.mk hI; clear hI; rw [pin ha]
    go_simp
    exact kSv hK HI hus hbs 3 _ rfl rfl hbp rfl rfl (HI.out.ph.pure 3 _)
   refine SG (fun bb aa w' us hus ha hI hbs hb0 hbp K hK => ?_) ?_
   ·obtain ⟨u0, u1, u2, u3, u4, u5, u6, u7, u8, u9, u10, u11, u12, rfl⟩ := lenA13 hus
    have e3 : u3 = (.bool true) := hI.vl 3 rfl hbp; subst e3
    rw [if_pos (show Region.wanted _ _ = true by rw [ha]; exact wanted_of (j := 3) (s := 108) (by kernel_rfl) (by kernel_rfl) (by kernel_rfl))]
    have HI := Veil.mk hI; clear hI; rw [pin ha]
    go_simp
    exact kSv hK HI hus hbs 4 _ rfl rfl hbp rfl rfl (HI.out.ph.pure 4 _)
   refine SG (fun bb aa w' us hus ha hI hbs hb0 hbp K hK => ?_) ?_
   ·obtain ⟨u0, u1, u2, u3, u4, u5, u6, u7, u8, u9, u10, u11, u12, rfl⟩ := lenA13 hus
    have e4 : u4 = .pointer (some ⟨o, 0, none⟩) := hI.vl 4 rfl hbp; subst e4
    have e3 : u3 = (.bool true) := hI.vl 3 rfl hbp; subst e3
    rw [if_pos (show Region.wanted _ _ = true by rw [ha]; exact wanted_of (j := 3) (s := 108) (by kernel_rfl) (by kernel_rfl) (by kernel_rfl))]
    have HI := Veil.mk hI; clear hI; rw [pin ha]
    go_simp
    exact kSv hK HI hus hbs 5 _ rfl rfl hbp rfl rfl (HI.out.ph.pure 5 _)
   refine SG (fun bb aa w' us hus ha hI hbs hb0 hbp K hK => ?_) ?_
   ·obtain ⟨u0, u1, u2, u3, u4, u5, u6, u7, u8, u9, u10, u11, u12, rfl⟩ := lenA13 hus
    have e5 : u5 = .pointer (some ⟨o, 0, none⟩) := hI.vl 5 rfl hbp; subst e5
    have e3 : u3 = (.bool true) := hI.vl 3 rfl hbp; subst e3
    rw [if_pos (show Region.wanted _ _ = true by rw [ha]; exact wanted_of (j := 3) (s := 108) (by kernel_rfl) (by kernel_rfl) (by kernel_rfl))]
    have HI := Veil.mk hI; clear hI; rw [pin ha]
    go_simp
    exact kSv hK HI hus hbs 6 _ rfl rfl hbp rfl rfl (HI.out.ph.pure 6 _)
   refine SG (fun bb aa w' us hus ha hI hbs hb0 hbp K hK => ?_) ?_
   ·obtain ⟨u0, u1, u2, u3, u4, u5, u6, u7, u8, u9, u10, u11, u12, rfl⟩ := lenA13 hus
    have e6 : u6 = .pointer (some ⟨o, 14, none⟩) := hI.vl 6 rfl hbp; subst e6
    have e3 : u3 = (.bool true) := hI.vl 3 rfl hbp; subst e3
    rw [if_pos (show Region.wanted _ _ = true by rw [ha]; exact wanted_of (j := 3) (s := 108) (by kernel_rfl) (by kernel_rfl) (by kernel_rfl))]
    have hbl := hI.ph.b
    have c14 : w'.cell? ⟨o, 14, none⟩ = some (.int .i64 (i : Int)) := (HBX.out.2.2.2.1.below hbl).at_ 14
    clear hbl
    have HI := Veil.mk hI; clear hI; rw [pin ha]
    go_simp
    exact kSv hK HI hus hbs 7 _ rfl rfl hbp rfl rfl (HI.out.ph.pure 7 _)
   refine SG (fun bb aa w' us hus ha hI hbs hb0 hbp K hK => ?_) ?_
   ·obtain ⟨u0, u1, u2, u3, u4, u5, u6, u7, u8, u9, u10, u11, u12, rfl⟩ := lenA13 hus
    have e3 : u3 = (.bool true) := hI.vl 3 rfl hbp; subst e3
    rw [if_pos (show Region.wanted _ _ = true by rw [ha]; exact wanted_of (j := 3) (s := 108) (by kernel_rfl) (by kernel_rfl) (by kernel_rfl))]
    have HI := Veil.mk hI; clear hI; rw [pin ha]
    go_simp
    exact kSv hK HI hus hbs 8 _ rfl rfl hbp rfl rfl (HI.out.ph.pure 8 _)
   refine SG (fun bb aa w' us hus ha hI hbs hb0 hbp K hK => ?_) ?_
   ·obtain ⟨u0, u1, u2, u3, u4, u5, u6, u7, u8, u9, u10, u11, u12, rfl⟩ := lenA13 hus
    have e8 : u8 = .pointer (some ⟨vb, 2, none⟩) := hI.vl 8 rfl hbp; subst e8
    have e3 : u3 = (.bool true) := hI.vl 3 rfl hbp; subst e3
    rw [if_pos (show Region.wanted _ _ = true by rw [ha]; exact wanted_of (j := 3) (s := 108) (by kernel_rfl) (by kernel_rfl) (by kernel_rfl))]
    have hbl := hI.ph.b
    have c2 : w'.cell? ⟨vb, 2, none⟩ = some (.string s) := (HBX.out.2.2.1.below hbl).at_ 2
    clear hbl
    have HI := Veil.mk hI; clear hI; rw [pin ha]
    go_simp
    exact kSv hK HI hus hbs 9 _ rfl rfl hbp rfl rfl (HI.out.ph.pure 9 _)
   refine SG (fun bb aa w' us hus ha hI hbs hb0 hbp K hK => ?_) ?_
   ·obtain ⟨u0, u1, u2, u3, u4, u5, u6, u7, u8, u9, u10, u11, u12, rfl⟩ := lenA13 hus
    have e9 : u9 = .string s := hI.vl 9 rfl hbp; subst e9
    have e3 : u3 = (.bool true) := hI.vl 3 rfl hbp; subst e3
    rw [if_pos (show Region.wanted _ _ = true by rw [ha]; exact wanted_of (j := 3) (s := 108) (by kernel_rfl) (by kernel_rfl) (by kernel_rfl))]
    have HI := Veil.mk hI; clear hI; rw [pin ha]
    go_simp
    go_at_call 80
    refine (HLN.out _).mono ?_
    rintro e9 w9 ⟨rfl, hm9⟩
    go_simp
    exact kSv hK HI hus hbs 10 _ rfl rfl hbp rfl rfl (HI.out.ph.quiet 10 _ hm9)
   refine SG (fun bb aa w' us hus ha hI hbs hb0 hbp K hK => ?_) ?_
   ·obtain ⟨u0, u1, u2, u3, u4, u5, u6, u7, u8, u9, u10, u11, u12, rfl⟩ := lenA13 hus
    have e7 : u7 = .int .i64 (i : Int) := hI.vl 7 rfl hbp; subst e7
    have e10 : u10 = .int .i64 ((s.size : Int) / 2) := hI.vl 10 rfl hbp; subst e10
    have e3 : u3 = (.bool true) := hI.vl 3 rfl hbp; subst e3
    rw [if_pos (show Region.wanted _ _ = true by rw [ha]; exact wanted_of (j := 3) (s := 108) (by kernel_rfl) (by kernel_rfl) (by kernel_rfl))]
    have HI := Veil.mk hI; clear hI; rw [pin ha]
    go_simp
    exact kSv hK HI hus hbs 11 _ rfl rfl hbp rfl rfl (HI.out.ph.pure 11 _)
   refine SC rfl (fun bb aa w' us hus ha hI hbs hb0 hbp K hK => ?_) ?_
   ·obtain ⟨u0, u1, u2, u3, u4, u5, u6, u7, u8, u9, u10, u11, u12, rfl⟩ := lenA13 hus
    have e3 : u3 = (.bool true) := hI.vl 3 rfl hbp; subst e3
    have e11 : u11 = (.bool true) := hI.vl 11 rfl hbp; subst e11
    have HI := Veil.mk hI; clear hI; rw [pin ha]
    go_simp
    exact kSv hK HI hus hbs 12 _ rfl rfl hbp rfl rfl (HI.out.ph.pure 12 _)
   exact Steps.nil
  ·intro us wE hus dd hD2 hJ
   obtain ⟨p0, p1, p2, p3, p4, p5, p6, p7, p8, p9, p10, p11, p12, rfl⟩ := lenA13 hus
   have hph := hJ.ph
   have e0 : p0 = .pointer (some ⟨vb, 0, none⟩) := hJ.ve 0 rfl rfl hD2; subst e0
   have e1 : p1 = .int .i64 7 := hJ.ve 1 rfl rfl hD2; subst e1
   have e2 : p2 = (.bool true) := hJ.ve 2 rfl rfl hD2; subst e2
   have e3 : p3 = (.bool true) := hJ.ve 3 rfl rfl hD2; subst e3
   have e4 : p4 = .pointer (some ⟨o, 0, none⟩) := hJ.ve 4 rfl rfl hD2; subst e4
   have e5 : p5 = .pointer (some ⟨o, 0, none⟩) := hJ.ve 5 rfl rfl hD2; subst e5
   have e6 : p6 = .pointer (some ⟨o, 14, none⟩) := hJ.ve 6 rfl rfl hD2; subst e6
   have e7 : p7 = .int .i64 (i : Int) := hJ.ve 7 rfl rfl hD2; subst e7
   have e8 : p8 = .pointer (some ⟨vb, 2, none⟩) := hJ.ve 8 rfl rfl hD2; subst e8
   have e9 : p9 = .string s := hJ.ve 9 rfl rfl hD2; subst e9
   have e10 : p10 = .int .i64 ((s.size : Int) / 2) := hJ.ve 10 rfl rfl hD2; subst e10
   have e11 : p11 = (.bool true) := hJ.ve 11 rfl rfl hD2; subst e11
   have e12 : p12 = (.bool true) := hJ.ve 12 rfl rfl hD2; subst e12
   clear hJ
   have HQ := Veil.mk hph.b
   clear hph hD2
   simp only [puts, setAll, List.setIfInBounds_toArray, List.set_cons_zero, List.set_cons_succ]
   have e14 : wE.cell? ⟨o, 14, none⟩ = some (.int .i64 (i : Int)) := (HBX.out.2.2.2.1.below HQ.out).at_ 14
   go_upto_region 17 with (go_at_call 362; ((with_reducible refine (whole_any _ _).mono ?_); rintro e w5 ⟨rfl, hb5⟩; have HB5 := Veil.mk (blw2 HQ.out hb5); clear hb5))
   obtain ⟨eb, heb⟩ : ∃ eb, w5.heap.size = eb := ⟨_, rfl⟩
   obtain ⟨w6, hw6⟩ : ∃ w6, w5.alloc (.cells #[.int .i64 3, .int .i64 (i : Int), .string ⟨#[]⟩] 28) = w6 := ⟨_, rfl⟩
   have bx := Box.new w5 28 #[.int .i64 3, .int .i64 (i : Int), .string ⟨#[]⟩]
   have bl : Below w5.heap.size w5 (w5.alloc (.cells #[.int .i64 3, .int .i64 (i : Int), .string ⟨#[]⟩] 28)) := (Below.refl _ _).alloc (Nat.le_refl _) _
   rw [hw6] at bx bl ⊢
   rw [heb] at bx ⊢
   clear heb hw6 e14 HWD
   obtain ⟨WD, hWD⟩ : ∃ WD, w6.drew = WD := ⟨_, rfl⟩
   have hdr : Below w6.heap.size w6 WD := by rw [<- hWD]; exact (Below.refl _ _).drew
   have hb9 := blw2 (blw2 HB5.out bl) hdr
   have HBX := Veil.mk (And.intro (HBX.out.1.below hb9) (And.intro (HBX.out.2.1.below hb9) (And.intro (HBX.out.2.2.1.below hb9) (And.intro (HBX.out.2.2.2.1.below hb9) (show ∀ w', Below WD.heap.size WD w' -> w'.cell? ⟨m, 0, none⟩ = some (.pointer (some ⟨h, 0, none⟩)) from fun w' hb => HBX.out.2.2.2.2 w' (hb9.trans (hb.mono hb9.size)))))))
   have HBF := Veil.mk (blw2 HBF.out hb9)
   have HEB := Veil.mk (bx.below hdr)
   have HWD := Veil.mk hWD
   clear hWD hdr hb9
   clear HQ HB5 bx bl
   refine wp_region_chain (some (· = .pointer (some ⟨vb, 2, none⟩)) :: some (· = .string s) :: some (· = .pointer (some ⟨o, 0, none⟩)) :: some (· = .pointer (some ⟨o, 0, none⟩)) :: some (· = .pointer (some ⟨o, 14, none⟩)) :: some (· = .int .i64 (i : Int)) :: some (· = (.tuple #[.int .i32 cp, .int .i64 (n : Int)])) :: some (· = (.tuple #[.int .i32 cp, .int .i64 (n : Int)])) :: some (· = .int .i32 cp) :: some (· = .int .i64 (n : Int)) :: some (· = .int .i32 cp) :: some (· = .int .i64 (n : Int)) :: [] : List (Option (Value -> Prop))) (QT WD) [some 124, some 125, some 126, some 127, some 128, some 129, some 130, some 123, some 131, some 132, some 17, some 18] (curV' _ [some 124, some 125, some 126, some 127, some 128, some 129, some 130, some 123, some 131, some 132, some 17, some 18]) (by kernel_rfl) rfl rfl (puts_cur _ _) (by rw [HWD.out]; exact QT.start) ?_ (by kernel_rfl) ?_
   ·refine SC rfl (fun bb aa w' us hus ha hI hbs hb0 hbp K hK => ?_) ?_
    ·obtain ⟨u0, u1, u2, u3, u4, u5, u6, u7, u8, u9, u10, u11, rfl⟩ := lenA12 hus
     have HI := Veil.mk hI; clear hI; rw [pin ha]
     go_simp
     exact kSv hK HI hus hbs 0 _ rfl rfl hbp rfl rfl (HI.out.ph.pure 0 _)
    refine SC rfl (fun bb aa w' us hus ha hI hbs hb0 hbp K hK => ?_) ?_
    ·obtain ⟨u0, u1, u2, u3, u4, u5, u6, u7, u8, u9, u10, u11, rfl⟩ := lenA12 hus
     have e0 : u0 = .pointer (some ⟨vb, 2, none⟩) := hI.vl 0 rfl hbp; subst e0
     have hbl := hI.ph.b
     have c2 : w'.cell? ⟨vb, 2, none⟩ = some (.string s) := (HBX.out.2.2.1.below hbl).at_ 2
     clear hbl
     have HI := Veil.mk hI; clear hI; rw [pin ha]
     go_simp
     exact kSv hK HI hus hbs 1 _ rfl rfl hbp rfl rfl (HI.out.ph.pure 1 _)
    refine SC rfl (fun bb aa w' us hus ha hI hbs hb0 hbp K hK => ?_) ?_
    ·obtain ⟨u0, u1, u2, u3, u4, u5, u6, u7, u8, u9, u10, u11, rfl⟩ := lenA12 hus
     have HI := Veil.mk hI; clear hI; rw [pin ha]
     go_simp
     exact kSv hK HI hus hbs 2 _ rfl rfl hbp rfl rfl (HI.out.ph.pure 2 _)
    refine SC rfl (fun bb aa w' us hus ha hI hbs hb0 hbp K hK => ?_) ?_
    ·obtain ⟨u0, u1, u2, u3, u4, u5, u6, u7, u8, u9, u10, u11, rfl⟩ := lenA12 hus
     have e2 : u2 = .pointer (some ⟨o, 0, none⟩) := hI.vl 2 rfl hbp; subst e2
     have HI := Veil.mk hI; clear hI; rw [pin ha]
     go_simp
     exact kSv hK HI hus hbs 3 _ rfl rfl hbp rfl rfl (HI.out.ph.pure 3 _)
    refine SC rfl (fun bb aa w' us hus ha hI hbs hb0 hbp K hK => ?_) ?_
    ·obtain ⟨u0, u1, u2, u3, u4, u5, u6, u7, u8, u9, u10, u11, rfl⟩ := lenA12 hus
     have e3 : u3 = .pointer (some ⟨o, 0, none⟩) := hI.vl 3 rfl hbp; subst e3
     have HI := Veil.mk hI; clear hI; rw [pin ha]
     go_simp
     exact kSv hK HI hus hbs 4 _ rfl rfl hbp rfl rfl (HI.out.ph.pure 4 _)
    refine SC rfl (fun bb aa w' us hus ha hI hbs hb0 hbp K hK => ?_) ?_
    ·obtain ⟨u0, u1, u2, u3, u4, u5, u6, u7, u8, u9, u10, u11, rfl⟩ := lenA12 hus
     have e4 : u4 = .pointer (some ⟨o, 14, none⟩) := hI.vl 4 rfl hbp; subst e4
     have hbl := hI.ph.b
     have c14 : w'.cell? ⟨o, 14, none⟩ = some (.int .i64 (i : Int)) := (HBX.out.2.2.2.1.below hbl).at_ 14
     clear hbl
     have HI := Veil.mk hI; clear hI; rw [pin ha]
     go_simp
     exact kSv hK HI hus hbs 5 _ rfl rfl hbp rfl rfl (HI.out.ph.pure 5 _)
    refine SC rfl (fun bb aa w' us hus ha hI hbs hb0 hbp K hK => ?_) ?_
    ·obtain ⟨u0, u1, u2, u3, u4, u5, u6, u7, u8, u9, u10, u11, rfl⟩ := lenA12 hus
     have e1 : u1 = .string s := hI.vl 1 rfl hbp; subst e1
     have e5 : u5 = .int .i64 (i : Int) := hI.vl 5 rfl hbp; subst e5
     have HI := Veil.mk hI; clear hI; rw [pin ha]
     go_simp
     go_at_call 376
     refine (HPT.out _).mono ?_
     rintro e9 w9 ⟨rfl, hm9⟩
     go_simp
     exact kSv hK HI hus hbs 6 _ rfl rfl hbp rfl rfl (HI.out.ph.quiet 6 _ hm9)
    refine SC rfl (fun bb aa w' us hus ha hI hbs hb0 hbp K hK => ?_) ?_
    ·obtain ⟨u0, u1, u2, u3, u4, u5, u6, u7, u8, u9, u10, u11, rfl⟩ := lenA12 hus
     have e6 : u6 = (.tuple #[.int .i32 cp, .int .i64 (n : Int)]) := hI.vl 6 rfl hbp; subst e6
     have HI := Veil.mk hI; clear hI; rw [pin ha]
     go_simp
     exact kSv hK HI hus hbs 7 _ rfl rfl hbp rfl rfl (HI.out.ph.pure 7 _)
    refine SC rfl (fun bb aa w' us hus ha hI hbs hb0 hbp K hK => ?_) ?_
    ·obtain ⟨u0, u1, u2, u3, u4, u5, u6, u7, u8, u9, u10, u11, rfl⟩ := lenA12 hus
     have e7 : u7 = (.tuple #[.int .i32 cp, .int .i64 (n : Int)]) := hI.vl 7 rfl hbp; subst e7
     have HI := Veil.mk hI; clear hI; rw [pin ha]
     go_simp
     exact kSv hK HI hus hbs 8 _ rfl rfl hbp rfl rfl (HI.out.ph.pure 8 _)
    refine SC rfl (fun bb aa w' us hus ha hI hbs hb0 hbp K hK => ?_) ?_
    ·obtain ⟨u0, u1, u2, u3, u4, u5, u6, u7, u8, u9, u10, u11, rfl⟩ := lenA12 hus
     have e7 : u7 = (.tuple #[.int .i32 cp, .int .i64 (n : Int)]) := hI.vl 7 rfl hbp; subst e7
     have HI := Veil.mk hI; clear hI; rw [pin ha]
     go_simp
     exact kSv hK HI hus hbs 9 _ rfl rfl hbp rfl rfl (HI.out.ph.pure 9 _)
    refine SC rfl (fun bb aa w' us hus ha hI hbs hb0 hbp K hK => ?_) ?_
    ·obtain ⟨u0, u1, u2, u3, u4, u5, u6, u7, u8, u9, u10, u11, rfl⟩ := lenA12 hus
     have e8 : u8 = .int .i32 cp := hI.vl 8 rfl hbp; subst e8
     have HI := Veil.mk hI; clear hI; rw [pin ha]
     go_simp
     exact kSv hK HI hus hbs 10 _ rfl rfl hbp rfl rfl (HI.out.ph.pure 10 _)
    refine SC rfl (fun bb aa w' us hus ha hI hbs hb0 hbp K hK => ?_) ?_
    ·obtain ⟨u0, u1, u2, u3, u4, u5, u6, u7, u8, u9, u10, u11, rfl⟩ := lenA12 hus
     have e9 : u9 = .int .i64 (n : Int) := hI.vl 9 rfl hbp; subst e9
     have HI := Veil.mk hI; clear hI; rw [pin ha]
     go_simp
     exact kSv hK HI hus hbs 11 _ rfl rfl hbp rfl rfl (HI.out.ph.pure 11 _)
    exact Steps.nil
   ·intro us wE hus dd hD2 hJ
    obtain ⟨p0, p1, p2, p3, p4, p5, p6, p7, p8, p9, p10, p11, rfl⟩ := lenA12 hus
    have hph := hJ.ph
    have e0 : p0 = .pointer (some ⟨vb, 2, none⟩) := hJ.ve 0 rfl rfl hD2; subst e0
    have e1 : p1 = .string s := hJ.ve 1 rfl rfl hD2; subst e1
    have e2 : p2 = .pointer (some ⟨o, 0, none⟩) := hJ.ve 2 rfl rfl hD2; subst e2
    have e3 : p3 = .pointer (some ⟨o, 0, none⟩) := hJ.ve 3 rfl rfl hD2; subst e3
    have e4 : p4 = .pointer (some ⟨o, 14, none⟩) := hJ.ve 4 rfl rfl hD2; subst e4
    have e5 : p5 = .int .i64 (i : Int) := hJ.ve 5 rfl rfl hD2; subst e5
    have e6 : p6 = (.tuple #[.int .i32 cp, .int .i64 (n : Int)]) := hJ.ve 6 rfl rfl hD2; subst e6
    have e7 : p7 = (.tuple #[.int .i32 cp, .int .i64 (n : Int)]) := hJ.ve 7 rfl rfl hD2; subst e7
    have e8 : p8 = .int .i32 cp := hJ.ve 8 rfl rfl hD2; subst e8
    have e9 : p9 = .int .i64 (n : Int) := hJ.ve 9 rfl rfl hD2; subst e9
    have e10 : p10 = .int .i32 cp := hJ.ve 10 rfl rfl hD2; subst e10
    have e11 : p11 = .int .i64 (n : Int) := hJ.ve 11 rfl rfl hD2; subst e11
    clear hJ
    have HQ := Veil.mk hph.b
    clear hph hD2
    simp only [puts, setAll, List.setIfInBounds_toArray, List.set_cons_zero, List.set_cons_succ]
    go_upto_region 18 with (fail)
    have HEB := Veil.mk (HEB.out.below HQ.out)
    clear HWD
    obtain ⟨WD, hWD⟩ : ∃ WD, wE.drew = WD := ⟨_, rfl⟩
    have hdr : Below wE.heap.size wE WD := by rw [<- hWD]; exact (Below.refl _ _).drew
    have hb9 := blw2 (HQ.out) hdr
    have HBX := Veil.mk (And.intro (HBX.out.1.below hb9) (And.intro (HBX.out.2.1.below hb9) (And.intro (HBX.out.2.2.1.below hb9) (And.intro (HBX.out.2.2.2.1.below hb9) (show ∀ w', Below WD.heap.size WD w' -> w'.cell? ⟨m, 0, none⟩ = some (.pointer (some ⟨h, 0, none⟩)) from fun w' hb => HBX.out.2.2.2.2 w' (hb9.trans (hb.mono hb9.size)))))))
    have HBF := Veil.mk (blw2 HBF.out hb9)
    have HEB := Veil.mk (HEB.out.below hdr)
    have HWD := Veil.mk hWD
    clear hWD hdr hb9
    clear HQ
    refine wp_region_chain (some (· = .pointer (some ⟨vb, 2, none⟩)) :: some (· = .string s) :: some (· = .pointer (some ⟨o, 0, none⟩)) :: some (· = .pointer (some ⟨o, 0, none⟩)) :: some (· = .pointer (some ⟨o, 14, none⟩)) :: some (· = .int .i64 (i : Int)) :: some (· = .pointer (some ⟨o, 0, none⟩)) :: some (· = .pointer (some ⟨o, 0, none⟩)) :: some (· = .pointer (some ⟨o, 14, none⟩)) :: some (· = .int .i64 (i : Int)) :: some (· = .int .i64 (n : Int)) :: some (· = .int .i64 ((i : Int) + (n : Int))) :: some (· = .string z) :: some (· = .string z) :: [] : List (Option (Value -> Prop))) (QT WD) [some 133, some 134, some 135, some 136, some 137, some 138, some 139, some 140, some 141, some 142, some 143, some 144, some 145, some 19] (curV' _ [some 133, some 134, some 135, some 136, some 137, some 138, some 139, some 140, some 141, some 142, some 143, some 144, some 145, some 19]) (by kernel_rfl) rfl rfl (puts_cur _ _) (by rw [HWD.out]; exact QT.start) ?_ (by kernel_rfl) ?_
    ·refine SC rfl (fun bb aa w' us hus ha hI hbs hb0 hbp K hK => ?_) ?_
     ·obtain ⟨u0, u1, u2, u3, u4, u5, u6, u7, u8, u9, u10, u11, u12, u13, rfl⟩ := lenA14 hus
      have HI := Veil.mk hI; clear hI; rw [pin ha]
      go_simp
      exact kSv hK HI hus hbs 0 _ rfl rfl hbp rfl rfl (HI.out.ph.pure 0 _)
     refine SC rfl (fun bb aa w' us hus ha hI hbs hb0 hbp K hK => ?_) ?_
     ·obtain ⟨u0, u1, u2, u3, u4, u5, u6, u7, u8, u9, u10, u11, u12, u13, rfl⟩ := lenA14 hus
      have e0 : u0 = .pointer (some ⟨vb, 2, none⟩) := hI.vl 0 rfl hbp; subst e0
      have hbl := hI.ph.b
      have c2 : w'.cell? ⟨vb, 2, none⟩ = some (.string s) := (HBX.out.2.2.1.below hbl).at_ 2
      clear hbl
      have HI := Veil.mk hI; clear hI; rw [pin ha]
      go_simp
      exact kSv hK HI hus hbs 1 _ rfl rfl hbp rfl rfl (HI.out.ph.pure 1 _)
     refine SC rfl (fun bb aa w' us hus ha hI hbs hb0 hbp K hK => ?_) ?_
     ·obtain ⟨u0, u1, u2, u3, u4, u5, u6, u7, u8, u9, u10, u11, u12, u13, rfl⟩ := lenA14 hus
      have HI := Veil.mk hI; clear hI; rw [pin ha]
      go_simp
      exact kSv hK HI hus hbs 2 _ rfl rfl hbp rfl rfl (HI.out.ph.pure 2 _)
     refine SC rfl (fun bb aa w' us hus ha hI hbs hb0 hbp K hK => ?_) ?_
     ·obtain ⟨u0, u1, u2, u3, u4, u5, u6, u7, u8, u9, u10, u11, u12, u13, rfl⟩ := lenA14 hus
      have e2 : u2 = .pointer (some ⟨o, 0, none⟩) := hI.vl 2 rfl hbp; subst e2
      have HI := Veil.mk hI; clear hI; rw [pin ha]
      go_simp
      exact kSv hK HI hus hbs 3 _ rfl rfl hbp rfl rfl (HI.out.ph.pure 3 _)
     refine SC rfl (fun bb aa w' us hus ha hI hbs hb0 hbp K hK => ?_) ?_
     ·obtain ⟨u0, u1, u2, u3, u4, u5, u6, u7, u8, u9, u10, u11, u12, u13, rfl⟩ := lenA14 hus
      have e3 : u3 = .pointer (some ⟨o, 0, none⟩) := hI.vl 3 rfl hbp; subst e3
      have HI := Veil.mk hI; clear hI; rw [pin ha]
      go_simp
      exact kSv hK HI hus hbs 4 _ rfl rfl hbp rfl rfl (HI.out.ph.pure 4 _)
     refine SC rfl (fun bb aa w' us hus ha hI hbs hb0 hbp K hK => ?_) ?_
     ·obtain ⟨u0, u1, u2, u3, u4, u5, u6, u7, u8, u9, u10, u11, u12, u13, rfl⟩ := lenA14 hus
      have e4 : u4 = .pointer (some ⟨o, 14, none⟩) := hI.vl 4 rfl hbp; subst e4
      have hbl := hI.ph.b
      have c14 : w'.cell? ⟨o, 14, none⟩ = some (.int .i64 (i : Int)) := (HBX.out.2.2.2.1.below hbl).at_ 14
      clear hbl
      have HI := Veil.mk hI; clear hI; rw [pin ha]
      go_simp
      exact kSv hK HI hus hbs 5 _ rfl rfl hbp rfl rfl (HI.out.ph.pure 5 _)
     refine SC rfl (fun bb aa w' us hus ha hI hbs hb0 hbp K hK => ?_) ?_
     ·obtain ⟨u0, u1, u2, u3, u4, u5, u6, u7, u8, u9, u10, u11, u12, u13, rfl⟩ := lenA14 hus
      have HI := Veil.mk hI; clear hI; rw [pin ha]
      go_simp
      exact kSv hK HI hus hbs 6 _ rfl rfl hbp rfl rfl (HI.out.ph.pure 6 _)
     refine SC rfl (fun bb aa w' us hus ha hI hbs hb0 hbp K hK => ?_) ?_
     ·obtain ⟨u0, u1, u2, u3, u4, u5, u6, u7, u8, u9, u10, u11, u12, u13, rfl⟩ := lenA14 hus
      have e6 : u6 = .pointer (some ⟨o, 0, none⟩) := hI.vl 6 rfl hbp; subst e6
      have HI := Veil.mk hI; clear hI; rw [pin ha]
      go_simp
      exact kSv hK HI hus hbs 7 _ rfl rfl hbp rfl rfl (HI.out.ph.pure 7 _)
     refine SC rfl (fun bb aa w' us hus ha hI hbs hb0 hbp K hK => ?_) ?_
     ·obtain ⟨u0, u1, u2, u3, u4, u5, u6, u7, u8, u9, u10, u11, u12, u13, rfl⟩ := lenA14 hus
      have e7 : u7 = .pointer (some ⟨o, 0, none⟩) := hI.vl 7 rfl hbp; subst e7
      have HI := Veil.mk hI; clear hI; rw [pin ha]
      go_simp
      exact kSv hK HI hus hbs 8 _ rfl rfl hbp rfl rfl (HI.out.ph.pure 8 _)
     refine SC rfl (fun bb aa w' us hus ha hI hbs hb0 hbp K hK => ?_) ?_
     ·obtain ⟨u0, u1, u2, u3, u4, u5, u6, u7, u8, u9, u10, u11, u12, u13, rfl⟩ := lenA14 hus
      have e8 : u8 = .pointer (some ⟨o, 14, none⟩) := hI.vl 8 rfl hbp; subst e8
      have hbl := hI.ph.b
      have c14 : w'.cell? ⟨o, 14, none⟩ = some (.int .i64 (i : Int)) := (HBX.out.2.2.2.1.below hbl).at_ 14
      clear hbl
      have HI := Veil.mk hI; clear hI; rw [pin ha]
      go_simp
      exact kSv hK HI hus hbs 9 _ rfl rfl hbp rfl rfl (HI.out.ph.pure 9 _)
     refine SC rfl (fun bb aa w' us hus ha hI hbs hb0 hbp K hK => ?_) ?_
     ·obtain ⟨u0, u1, u2, u3, u4, u5, u6, u7, u8, u9, u10, u11, u12, u13, rfl⟩ := lenA14 hus
      have HI := Veil.mk hI; clear hI; rw [pin ha]
      go_simp
      exact kSv hK HI hus hbs 10 _ rfl rfl hbp rfl rfl (HI.out.ph.pure 10 _)
     refine SC rfl (fun bb aa w' us hus ha hI hbs hb0 hbp K hK => ?_) ?_
     ·obtain ⟨u0, u1, u2, u3, u4, u5, u6, u7, u8, u9, u10, u11, u12, u13, rfl⟩ := lenA14 hus
      have e9 : u9 = .int .i64 (i : Int) := hI.vl 9 rfl hbp; subst e9
      have e10 : u10 = .int .i64 (n : Int) := hI.vl 10 rfl hbp; subst e10
      have HI := Veil.mk hI; clear hI; rw [pin ha]
      go_simp
      exact kSv hK HI hus hbs 11 _ rfl rfl hbp rfl rfl (HI.out.ph.pure 11 _)
     refine SC rfl (fun bb aa w' us hus ha hI hbs hb0 hbp K hK => ?_) ?_
     ·obtain ⟨u0, u1, u2, u3, u4, u5, u6, u7, u8, u9, u10, u11, u12, u13, rfl⟩ := lenA14 hus
      have e1 : u1 = .string s := hI.vl 1 rfl hbp; subst e1
      have e5 : u5 = .int .i64 (i : Int) := hI.vl 5 rfl hbp; subst e5
      have e11 : u11 = .int .i64 ((i : Int) + (n : Int)) := hI.vl 11 rfl hbp; subst e11
      have HI := Veil.mk hI; clear hI; rw [pin ha]
      go_simp
      go_at_call 139
      refine (HSB.out _).mono ?_
      rintro e9 w9 ⟨rfl, hm9⟩
      go_simp
      exact kSv hK HI hus hbs 12 _ rfl rfl hbp rfl rfl (HI.out.ph.quiet 12 _ hm9)
     refine SC rfl (fun bb aa w' us hus ha hI hbs hb0 hbp K hK => ?_) ?_
     ·obtain ⟨u0, u1, u2, u3, u4, u5, u6, u7, u8, u9, u10, u11, u12, u13, rfl⟩ := lenA14 hus
      have e12 : u12 = .string z := hI.vl 12 rfl hbp; subst e12
      have HI := Veil.mk hI; clear hI; rw [pin ha]
      go_simp
      exact kSv hK HI hus hbs 13 _ rfl rfl hbp rfl rfl (HI.out.ph.pure 13 _)
     exact Steps.nil
    ·intro us wE hus dd hD2 hJ
     obtain ⟨p0, p1, p2, p3, p4, p5, p6, p7, p8, p9, p10, p11, p12, p13, rfl⟩ := lenA14 hus
     have hph := hJ.ph
     have e0 : p0 = .pointer (some ⟨vb, 2, none⟩) := hJ.ve 0 rfl rfl hD2; subst e0
     have e1 : p1 = .string s := hJ.ve 1 rfl rfl hD2; subst e1
     have e2 : p2 = .pointer (some ⟨o, 0, none⟩) := hJ.ve 2 rfl rfl hD2; subst e2
     have e3 : p3 = .pointer (some ⟨o, 0, none⟩) := hJ.ve 3 rfl rfl hD2; subst e3
     have e4 : p4 = .pointer (some ⟨o, 14, none⟩) := hJ.ve 4 rfl rfl hD2; subst e4
     have e5 : p5 = .int .i64 (i : Int) := hJ.ve 5 rfl rfl hD2; subst e5
     have e6 : p6 = .pointer (some ⟨o, 0, none⟩) := hJ.ve 6 rfl rfl hD2; subst e6
     have e7 : p7 = .pointer (some ⟨o, 0, none⟩) := hJ.ve 7 rfl rfl hD2; subst e7
     have e8 : p8 = .pointer (some ⟨o, 14, none⟩) := hJ.ve 8 rfl rfl hD2; subst e8
     have e9 : p9 = .int .i64 (i : Int) := hJ.ve 9 rfl rfl hD2; subst e9
     have e10 : p10 = .int .i64 (n : Int) := hJ.ve 10 rfl rfl hD2; subst e10
     have e11 : p11 = .int .i64 ((i : Int) + (n : Int)) := hJ.ve 11 rfl rfl hD2; subst e11
     have e12 : p12 = .string z := hJ.ve 12 rfl rfl hD2; subst e12
     have e13 : p13 = .string z := hJ.ve 13 rfl rfl hD2; subst e13
     clear hJ
     have HQ := Veil.mk hph.b
     clear hph hD2
     simp only [puts, setAll, List.setIfInBounds_toArray, List.set_cons_zero, List.set_cons_succ]
     have HOE := Veil.mk (HBX.out.2.2.2.1.below HQ.out)
     have e14 : wE.cell? ⟨o, 14, none⟩ = some (.int .i64 (i : Int)) := HOE.out.at_ 14
     have f14 := HOE.out.free 14
     have HEE := Veil.mk (HEB.out.below HQ.out)
     go_upto_region 20 with (fail)
     have hmE : MP wE h A m f ts := (HP0.out.on HBF.out).on HQ.out
     have hob9 := HOE.out.put 14 (.int .i64 ((i : Int) + (n : Int)))
     have hst := hmE.stepV_at (V := fun _ => False) (W' := wE.setCell ⟨o, 14, none⟩ (.int .i64 ((i : Int) + (n : Int)))) HPL.out.1 rfl (.pointer none) (.slice none 0 0) .nilIface ⟨kd, .slice (some ⟨g, 0, none⟩) 1 1, (i : Int) + (n : Int), false⟩ (fun _ => False) [] (fun k hk => hk.elim) (Touch.put (.inl rfl) _ _) hob9 (.inl ⟨rfl, rfl, rfl⟩) (fun k hk => hk.elim)
     have hbk6 : Bk A W (wE.setCell ⟨o, 14, none⟩ (.int .i64 ((i : Int) + (n : Int)))) := (Bk.of_below HPL.out.2 (HBB.out.1.trans ((blw2 HBF.out HQ.out).mono HBB.out.1.size))).trans ⟨hst.2.bel, fun k e he hl => hst.2.kv k e he hl (fun h => h)⟩
     obtain ⟨w8, hw8⟩ : ∃ w8, wE.setCell ⟨o, 14, none⟩ (.int .i64 ((i : Int) + (n : Int))) = w8 := ⟨_, rfl⟩
     have hto : Touch (fun k => k = o) wE w8 := by rw [<- hw8]; exact Touch.put (S := fun k => k = o) rfl _ _
     rw [hw8] at hst hbk6 ⊢
     have hno : ∀ k cs, Box wE k VTy cs -> Box w8 k VTy cs := fun k cs hx => hx.touch hto (hx.other HOE.out (by decide))
     have HKA := Veil.mk (hno _ _ (HBX.out.1.below HQ.out))
     have HKB := Veil.mk (hno _ _ (HBX.out.2.1.below HQ.out))
     have HE8 := Veil.mk (hno _ _ HEE.out)
     have HS8 := Veil.mk (And.intro hst.1 hbk6)
     have HNK : Veil (kb ≠ ka) := ⟨by have := HW0.out.2.2; omega⟩
     clear e14 f14 hmE hob9 hst hbk6 hw8 hto hno HOE HEE HQ HBX HEB
     have c0 : w8.cell? ⟨eb, 0, none⟩ = some (.int .i64 3) := HE8.out.at_ 0
     have c1 : w8.cell? ⟨eb, 1, none⟩ = some (.int .i64 (i : Int)) := HE8.out.at_ 1
     have c2 : w8.cell? ⟨eb, 2, none⟩ = some (.string ⟨#[]⟩) := HE8.out.at_ 2
     have z0 : w8.cell? ⟨ka, 0, none⟩ = some (.int .i64 0) := HKA.out.at_ 0
     have z1 : w8.cell? ⟨ka, 1, none⟩ = some (.int .i64 0) := HKA.out.at_ 1
     have z2 : w8.cell? ⟨ka, 2, none⟩ = some (.string ⟨#[]⟩) := HKA.out.at_ 2
     have q0 := HKA.out.free 0
     have q1 := HKA.out.free 1
     have q2 := HKA.out.free 2
     have x0 : w8.cell? ⟨kb, 0, none⟩ = some (.int .i64 0) := HKB.out.at_ 0
     have x1 : w8.cell? ⟨kb, 1, none⟩ = some (.int .i64 0) := HKB.out.at_ 1
     have x2 : w8.cell? ⟨kb, 2, none⟩ = some (.string ⟨#[]⟩) := HKB.out.at_ 2
     have y0 := HKB.out.free 0
     have y1 := HKB.out.free 1
     have y2 := HKB.out.free 2
     have hnk := HNK.out
     go_wp2
     have ha3 := ((HKA.out.put 0 (.int .i64 3)).put 1 (.int .i64 (i : Int))).put 2 (.string ⟨#[]⟩)
     have ha := ((ha3.touch (Touch.put (S := fun k => k = kb) rfl 0 (.int .i64 7)) (Ne.symm hnk)).touch (Touch.put (S := fun k => k = kb) rfl 1 (.int .i64 0)) (Ne.symm hnk)).touch (Touch.put (S := fun k => k = kb) rfl 2 (.string z)) (Ne.symm hnk)
     have hk0 := ((HKB.out.touch (Touch.put (S := fun k => k = ka) rfl 0 (.int .i64 3)) hnk).touch (Touch.put (S := fun k => k = ka) rfl 1 (.int .i64 (i : Int))) hnk).touch (Touch.put (S := fun k => k = ka) rfl 2 (.string ⟨#[]⟩)) hnk
     have hb3 := ((hk0.put 0 (.int .i64 7)).put 1 (.int .i64 0)).put 2 (.string z)
     have r0 := ha.at_ 0
     have r1 := ha.at_ 1
     have r2 := ha.at_ 2
     have s0 := hb3.at_ 0
     have s1 := hb3.at_ 1
     have s2 := hb3.at_ 2
     have hp3 := ((HS8.out.1.putv HKA.out.lab 0 (.int .i64 3)).putv (HKA.out.put 0 _).lab 1 (.int .i64 (i : Int))).putv ((HKA.out.put 0 _).put 1 _).lab 2 (.string ⟨#[]⟩)
     have hp6 := ((hp3.putv hk0.lab 0 (.int .i64 7)).putv (hk0.put 0 _).lab 1 (.int .i64 0)).putv ((hk0.put 0 _).put 1 _).lab 2 (.string z)
     have hk3 := ((HS8.out.2.setv HLO.out.1 HPL.out.2 0 (.int .i64 3)).setv HLO.out.1 HPL.out.2 1 (.int .i64 (i : Int))).setv HLO.out.1 HPL.out.2 2 (.string ⟨#[]⟩)
     have hk6 := ((hk3.setv HLO.out.2 HPL.out.2 0 (.int .i64 7)).setv HLO.out.2 HPL.out.2 1 (.int .i64 0)).setv HLO.out.2 HPL.out.2 2 (.string z)
     exact bodyPost_ret (v := .tuple #[valV (3, (i : Int), ⟨#[]⟩), valV (7, 0, z), .int .i64 0]) (by simp [results, Tryz.results365, go_sem, r0, r1, r2, s0, s1, s2]) rfl ⟨rfl, hp6, hk6⟩
end
section
variable {W : World} {h A m : Nat} {f : MF} {ts : List TO}
set_option maxHeartbeats 16000000 in
set_option maxRecDepth 100000 in
theorem MP.adv_end (H : MP W h A m f ts) {iw o g i : Nat} {kd : Int} {s : ByteArray} (hp : ts[iw]? = some (TO.wkr o kd (.slice (some ⟨g, 0, none⟩) 1 1) (i : Int))) (hg : Box W g VTy #[.int .i64 7, .int .i64 0, .string s]) (hs : s.size <= 16777216) (hi : s.size / 2 <= i) (hi9 : i <= 8388608) :
  Calls Tryz.prog 365 #[.pointer (some ⟨m, 0, none⟩), .pointer (some ⟨o, 0, none⟩)] W fun e w' => e = .returned (.tuple #[valV zV, valV zV, .int .i64 0]) /\ MP w' h A m f (ts.set iw (TO.wkr o kd (.slice none 0 0) (i : Int))) /\ Bk A W w' := by
 have hA := Nat.le_of_lt H.mm.alt
 have hob : Box W o 63 (objF 5 12 false (.pointer none) (.slice none 0 0) .nilIface ⟨kd, .slice (some ⟨g, 0, none⟩) 1 1, (i : Int), false⟩) := H.mem_b (List.mem_of_getElem? hp) rfl
 obtain ⟨ka, hka⟩ : ∃ ka, W.heap.size = ka := ⟨_, rfl⟩
 obtain ⟨kb, hkb⟩ : ∃ kb, ka + 1 = kb := ⟨_, rfl⟩
 obtain ⟨W0, hW0⟩ : ∃ W0, ((W.alloc (.cells #[.int .i64 0, .int .i64 0, .string ⟨#[]⟩] 28)).alloc (.cells #[.int .i64 0, .int .i64 0, .string ⟨#[]⟩] 28)) = W0 := ⟨_, rfl⟩
 have bb : Below W.heap.size W W0 := by rw [<- hW0]; exact (((Below.refl _ _).alloc (Nat.le_refl _) _).alloc (by simp only [World.size_alloc]; omega) _)
 have xka : Box W0 ka 28 #[.int .i64 0, .int .i64 0, .string ⟨#[]⟩] := by have h9 := ((Box.new W 28 #[.int .i64 0, .int .i64 0, .string ⟨#[]⟩]).more (.cells #[.int .i64 0, .int .i64 0, .string ⟨#[]⟩] 28)); rw [hW0, hka] at h9; exact h9
 have xkb : Box W0 kb 28 #[.int .i64 0, .int .i64 0, .string ⟨#[]⟩] := by have h9 := Box.new (W.alloc (.cells #[.int .i64 0, .int .i64 0, .string ⟨#[]⟩] 28)) 28 #[.int .i64 0, .int .i64 0, .string ⟨#[]⟩]; rw [hW0, show (W.alloc (.cells #[.int .i64 0, .int .i64 0, .string ⟨#[]⟩] 28)).heap.size = kb from by simp only [World.size_alloc]; omega] at h9; exact h9
 have HW0 := Veil.mk (And.intro hW0 (And.intro hka (hkb)))
 have HBB := Veil.mk (And.intro bb (And.intro xka (xkb)))
 have HLO : Veil (W.heap.size <= ka /\ W.heap.size <= kb) := ⟨by omega⟩
 clear hW0 bb hka xka hkb xkb
 have HP0 := Veil.mk (H.on HBB.out.1)
 have HPL := Veil.mk (And.intro hp hA)
 have ho0 := hob.below HBB.out.1
 have hg0 := hg.below HBB.out.1
 have HG0 := Veil.mk (And.intro ho0 hg0)
 have HLN : Veil (∀ w', Calls Tryz.prog 80 #[.string s] w' fun e w9 => e = .returned (.int .i64 ((s.size : Int) / 2)) /\ Below w'.heap.size w' w9) := ⟨fun w' => (Go.Proofs.YtahkohfppakaiaaGreatDoor.W.len_any s hs w').mono fun e w9 h9 => ⟨h9.1, by rw [<- h9.2]; exact Below.refl _ _⟩⟩
 have hi0 : (0 : Int) <= (i : Int) := by omega
 have hi1 : ¬ ((i : Int) < (s.size : Int) / 2) := by omega
 have hi2 : (i : Int) <= 8388608 := by omega
 have d5 : W0.cell? ⟨o, 5, none⟩ = some (.slice (some ⟨g, 0, none⟩) 1 1) := ho0.at_ 5
 have d7 : W0.cell? ⟨o, 7, none⟩ = some (.pointer none) := ho0.at_ 7
 have c0 : W0.cell? ⟨g, 0, none⟩ = some (.int .i64 7) := hg0.at_ 0
 have c1 : W0.cell? ⟨g, 1, none⟩ = some (.int .i64 0) := hg0.at_ 1
 have c2 : W0.cell? ⟨g, 2, none⟩ = some (.string s) := hg0.at_ 2
 clear H hp hg hs hi hi9 hA hob ho0 hg0
 go_enter Tryz.func365, Tryz.ntmps365
 go_upto_region 1 with (fail)
 rw [HW0.out.1, HW0.out.2.1, HW0.out.2.2]
 go_upto_region 4 with (fail)
 obtain ⟨vb, hvb⟩ : ∃ vb, W0.heap.size = vb := ⟨_, rfl⟩
 obtain ⟨W2, hW2⟩ : ∃ W2, W0.alloc (.cells #[.int .i64 7, .int .i64 0, .string s] 28) = W2 := ⟨_, rfl⟩
 have bx := Box.new W0 28 #[.int .i64 7, .int .i64 0, .string s]
 have bl : Below W0.heap.size W0 (W0.alloc (.cells #[.int .i64 7, .int .i64 0, .string s] 28)) := (Below.refl _ _).alloc (Nat.le_refl _) _
 rw [hW2] at bx bl ⊢
 rw [hvb] at bx ⊢
 have HB2 := Veil.mk (And.intro bl bx)
 clear c0 c1 c2 d5 d7 hvb hW2 bl bx
 have d7 : W2.cell? ⟨o, 7, none⟩ = some (.pointer none) := (HG0.out.1.below HB2.out.1).at_ 7
 go_upto_region 9 with (fail)
 obtain ⟨WD, hWD⟩ : ∃ WD, W2.drew = WD := ⟨_, rfl⟩
 have hdr : Below W2.heap.size W2 WD := by rw [<- hWD]; exact (Below.refl _ _).drew
 have hbD := blw2 HB2.out.1 hdr
 have HBX := Veil.mk (And.intro (HBB.out.2.1.below hbD) (And.intro (HBB.out.2.2.below hbD) (And.intro (HB2.out.2.below hdr) (And.intro (HG0.out.1.below hbD) (show ∀ w', Below WD.heap.size WD w' -> w'.cell? ⟨m, 0, none⟩ = some (.pointer (some ⟨h, 0, none⟩)) from fun w' hb => ((HP0.out.on hbD).on hb).mm.mb.at_ 0)))))
 have HBF := Veil.mk hbD
 have HWD := Veil.mk hWD
 clear hWD hdr hbD d7 HB2 HG0
 refine wp_region_chain (some (· = .pointer (some ⟨m, 0, none⟩)) :: some (· = .pointer (some ⟨m, 0, none⟩)) :: some (· = .pointer (some ⟨m, 0, none⟩)) :: some (· = .pointer (some ⟨h, 0, none⟩)) :: some (· = valV (7, 0, s)) :: some (· = .pointer none) :: some (· = .pointer none) :: [] : List (Option (Value -> Prop))) (QT WD) [some 56, some 57, some 58, some 59, some 60, some 61, some 12] (curV' _ [some 56, some 57, some 58, some 59, some 60, some 61, some 12]) (by kernel_rfl) rfl rfl (puts_cur _ _) (by rw [HWD.out]; exact QT.start) ?_ (by kernel_rfl) ?_
 ·refine SC rfl (fun bb aa w' us hus ha hI hbs hb0 hbp K hK => ?_) ?_
  ·obtain ⟨u0, u1, u2, u3, u4, u5, u6, rfl⟩ := lenA7 hus
   have HI := Veil.mk hI; clear hI; rw [pin ha]
   go_simp
   exact kSv hK HI hus hbs 0 _ rfl rfl hbp rfl rfl (HI.out.ph.pure 0 _)
  refine SC rfl (fun bb aa w' us hus ha hI hbs hb0 hbp K hK => ?_) ?_
  ·obtain ⟨u0, u1, u2, u3, u4, u5, u6, rfl⟩ := lenA7 hus
   have e0 : u0 = .pointer (some ⟨m, 0, none⟩) := hI.vl 0 rfl hbp; subst e0
   have HI := Veil.mk hI; clear hI; rw [pin ha]
   go_simp
   exact kSv hK HI hus hbs 1 _ rfl rfl hbp rfl rfl (HI.out.ph.pure 1 _)
  refine SC rfl (fun bb aa w' us hus ha hI hbs hb0 hbp K hK => ?_) ?_
  ·obtain ⟨u0, u1, u2, u3, u4, u5, u6, rfl⟩ := lenA7 hus
   have e1 : u1 = .pointer (some ⟨m, 0, none⟩) := hI.vl 1 rfl hbp; subst e1
   have HI := Veil.mk hI; clear hI; rw [pin ha]
   go_simp
   exact kSv hK HI hus hbs 2 _ rfl rfl hbp rfl rfl (HI.out.ph.pure 2 _)
  refine SC rfl (fun bb aa w' us hus ha hI hbs hb0 hbp K hK => ?_) ?_
  ·obtain ⟨u0, u1, u2, u3, u4, u5, u6, rfl⟩ := lenA7 hus
   have e2 : u2 = .pointer (some ⟨m, 0, none⟩) := hI.vl 2 rfl hbp; subst e2
   have hbl := hI.ph.b
   have c0 : w'.cell? ⟨m, 0, none⟩ = some (.pointer (some ⟨h, 0, none⟩)) := HBX.out.2.2.2.2 w' hbl
   clear hbl
   have HI := Veil.mk hI; clear hI; rw [pin ha]
   go_simp
   exact kSv hK HI hus hbs 3 _ rfl rfl hbp rfl rfl (HI.out.ph.pure 3 _)
  refine SC rfl (fun bb aa w' us hus ha hI hbs hb0 hbp K hK => ?_) ?_
  ·obtain ⟨u0, u1, u2, u3, u4, u5, u6, rfl⟩ := lenA7 hus
   have hbl := hI.ph.b
   have c0 : w'.cell? ⟨vb, 0, none⟩ = some (.int .i64 7) := (HBX.out.2.2.1.below hbl).at_ 0
   have c1 : w'.cell? ⟨vb, 1, none⟩ = some (.int .i64 0) := (HBX.out.2.2.1.below hbl).at_ 1
   have c2 : w'.cell? ⟨vb, 2, none⟩ = some (.string s) := (HBX.out.2.2.1.below hbl).at_ 2
   clear hbl
   have HI := Veil.mk hI; clear hI; rw [pin ha]
   go_simp
   exact kSv hK HI hus hbs 4 _ rfl rfl hbp rfl rfl (HI.out.ph.pure 4 _)
  refine SC rfl (fun bb aa w' us hus ha hI hbs hb0 hbp K hK => ?_) ?_
  ·obtain ⟨u0, u1, u2, u3, u4, u5, u6, rfl⟩ := lenA7 hus
   have e3 : u3 = .pointer (some ⟨h, 0, none⟩) := hI.vl 3 rfl hbp; subst e3
   have e4 : u4 = valV (7, 0, s) := hI.vl 4 rfl hbp; subst e4
   have HI := Veil.mk hI; clear hI; rw [pin ha]
   go_simp
   go_at_call 14
   refine (of_no h (7, 0, s) rfl _).mono ?_
   rintro e9 w9 ⟨rfl, hm9⟩
   go_simp
   exact kSv hK HI hus hbs 5 _ rfl rfl hbp rfl rfl (HI.out.ph.quiet 5 _ hm9)
  refine SC rfl (fun bb aa w' us hus ha hI hbs hb0 hbp K hK => ?_) ?_
  ·obtain ⟨u0, u1, u2, u3, u4, u5, u6, rfl⟩ := lenA7 hus
   have e5 : u5 = .pointer none := hI.vl 5 rfl hbp; subst e5
   have HI := Veil.mk hI; clear hI; rw [pin ha]
   go_simp
   exact kSv hK HI hus hbs 6 _ rfl rfl hbp rfl rfl (HI.out.ph.pure 6 _)
  exact Steps.nil
 ·intro us wE hus dd hD2 hJ
  obtain ⟨p0, p1, p2, p3, p4, p5, p6, rfl⟩ := lenA7 hus
  have hph := hJ.ph
  have e0 : p0 = .pointer (some ⟨m, 0, none⟩) := hJ.ve 0 rfl rfl hD2; subst e0
  have e1 : p1 = .pointer (some ⟨m, 0, none⟩) := hJ.ve 1 rfl rfl hD2; subst e1
  have e2 : p2 = .pointer (some ⟨m, 0, none⟩) := hJ.ve 2 rfl rfl hD2; subst e2
  have e3 : p3 = .pointer (some ⟨h, 0, none⟩) := hJ.ve 3 rfl rfl hD2; subst e3
  have e4 : p4 = valV (7, 0, s) := hJ.ve 4 rfl rfl hD2; subst e4
  have e5 : p5 = .pointer none := hJ.ve 5 rfl rfl hD2; subst e5
  have e6 : p6 = .pointer none := hJ.ve 6 rfl rfl hD2; subst e6
  clear hJ
  have HQ := Veil.mk hph.b
  clear hph hD2
  simp only [puts, setAll, List.setIfInBounds_toArray, List.set_cons_zero, List.set_cons_succ]
  go_upto_region 10 with (fail)
  go_quiet (fail)
  go_upto_region 15 with (fail)
  obtain ⟨WD, hWD⟩ : ∃ WD, (wE.drewN nq).drew = WD := ⟨_, rfl⟩
  have hdr : Below (wE.drewN nq).heap.size (wE.drewN nq) WD := by rw [<- hWD]; exact (Below.refl _ _).drew
  have hb9 := blw2 (show Below _ _ (wE.drewN nq) from HQ.out.trans ⟨rfl, rfl, rfl, Nat.le_refl _, fun _ _ => rfl⟩) hdr
  have HBX := Veil.mk (And.intro (HBX.out.1.below hb9) (And.intro (HBX.out.2.1.below hb9) (And.intro (HBX.out.2.2.1.below hb9) (And.intro (HBX.out.2.2.2.1.below hb9) (show ∀ w', Below WD.heap.size WD w' -> w'.cell? ⟨m, 0, none⟩ = some (.pointer (some ⟨h, 0, none⟩)) from fun w' hb => HBX.out.2.2.2.2 w' (hb9.trans (hb.mono hb9.size)))))))
  have HBF := Veil.mk (blw2 HBF.out hb9)
  have HWD := Veil.mk hWD
  clear hWD hdr hb9
  clear HQ
  refine wp_region_chain (some (· = .pointer (some ⟨vb, 0, none⟩)) :: some (· = .int .i64 7) :: some (· = (.bool true)) :: some (· = (.bool true)) :: some (· = .pointer (some ⟨o, 0, none⟩)) :: some (· = .pointer (some ⟨o, 0, none⟩)) :: some (· = .pointer (some ⟨o, 14, none⟩)) :: some (· = .int .i64 (i : Int)) :: some (· = .pointer (some ⟨vb, 2, none⟩)) :: some (· = .string s) :: some (· = .int .i64 ((s.size : Int) / 2)) :: some (· = (.bool false)) :: some (· = (.bool false)) :: [] : List (Option (Value -> Prop))) (QT WD) [some 105, some 106, some 107, some 108, some 109, some 110, some 111, some 112, some 113, some 114, some 115, some 116, some 117] (curV' _ [some 105, some 106, some 107, some 108, some 109, some 110, some 111, some 112, some 113, some 114, some 115, some 116, some 117]) (by kernel_rfl) rfl rfl (puts_cur _ _) (by rw [HWD.out]; exact QT.start) ?_ (by kernel_rfl) ?_
  ·refine SC rfl (fun bb aa w' us hus ha hI hbs hb0 hbp K hK => ?_) ?_
   ·obtain ⟨u0, u1, u2, u3, u4, u5, u6, u7, u8, u9, u10, u11, u12, rfl⟩ := lenA13 hus
    have HI := Veil.mk hI; clear hI; rw [pin ha]
    go_simp
    exact kSv hK HI hus hbs 0 _ rfl rfl hbp rfl rfl (HI.out.ph.pure 0 _)
   refine SC rfl (fun bb aa w' us hus ha hI hbs hb0 hbp K hK => ?_) ?_
   ·obtain ⟨u0, u1, u2, u3, u4, u5, u6, u7, u8, u9, u10, u11, u12, rfl⟩ := lenA13 hus
    have e0 : u0 = .pointer (some ⟨vb, 0, none⟩) := hI.vl 0 rfl hbp; subst e0
    have hbl := hI.ph.b
    have c0 : w'.cell? ⟨vb, 0, none⟩ = some (.int .i64 7) := (HBX.out.2.2.1.below hbl).at_ 0
    clear hbl
    have HI := Veil.mk hI; clear hI; rw [pin ha]
    go_simp
    exact kSv hK HI hus hbs 1 _ rfl rfl hbp rfl rfl (HI.out.ph.pure 1 _)
   refine SC rfl (fun bb aa w' us hus ha hI hbs hb0 hbp K hK => ?_) ?_
   ·obtain ⟨u0, u1, u2, u3, u4, u5, u6, u7, u8, u9, u10, u11, u12, rfl⟩ := lenA13 hus
    have e1 : u1 = .int .i64 7 := hI.vl 1 rfl hbp; subst e1
    have HI := Veil.mk hI; clear hI; rw [pin ha]
    go_simp
    exact kSv hK HI hus hbs 2 _ rfl rfl hbp rfl rfl (HI.out.ph.pure 2 _)
   refine SC rfl (fun bb aa w' us hus ha hI hbs hb0 hbp K hK => ?_) ?_
   ·obtain ⟨u0, u1, u2, u3, u4, u5, u6, u7, u8, u9, u10, u11, u12, rfl⟩ := lenA13 hus
    have e2 : u2 = (.bool true) := hI.vl 2 rfl hbp; subst e2
    have HI := Veil.mk hI; clear hI; rw [pin ha]
    go_simp
    exact kSv hK HI hus hbs 3 _ rfl rfl hbp rfl rfl (HI.out.ph.pure 3 _)
   refine SG (fun bb aa w' us hus ha hI hbs hb0 hbp K hK => ?_) ?_
   ·obtain ⟨u0, u1, u2, u3, u4, u5, u6, u7, u8, u9, u10, u11, u12, rfl⟩ := lenA13 hus
    have e3 : u3 = (.bool true) := hI.vl 3 rfl hbp; subst e3
    rw [if_pos (show Region.wanted _ _ = true by rw [ha]; exact wanted_of (j := 3) (s := 108) (by kernel_rfl) (by kernel_rfl) (by kernel_rfl))]
    have HI := Veil.mk hI; clear hI; rw [pin ha]
    go_simp
    exact kSv hK HI hus hbs 4 _ rfl rfl hbp rfl rfl (HI.out.ph.pure 4 _)
   refine SG (fun bb aa w' us hus ha hI hbs hb0 hbp K hK => ?_) ?_
   ·obtain ⟨u0, u1, u2, u3, u4, u5, u6, u7, u8, u9, u10, u11, u12, rfl⟩ := lenA13 hus
    have e4 : u4 = .pointer (some ⟨o, 0, none⟩) := hI.vl 4 rfl hbp; subst e4
    have e3 : u3 = (.bool true) := hI.vl 3 rfl hbp; subst e3
    rw [if_pos (show Region.wanted _ _ = true by rw [ha]; exact wanted_of (j := 3) (s := 108) (by kernel_rfl) (by kernel_rfl) (by kernel_rfl))]
    have HI := Veil.mk hI; clear hI; rw [pin ha]
    go_simp
    exact kSv hK HI hus hbs 5 _ rfl rfl hbp rfl rfl (HI.out.ph.pure 5 _)
   refine SG (fun bb aa w' us hus ha hI hbs hb0 hbp K hK => ?_) ?_
   ·obtain ⟨u0, u1, u2, u3, u4, u5, u6, u7, u8, u9, u10, u11, u12, rfl⟩ := lenA13 hus
    have e5 : u5 = .pointer (some ⟨o, 0, none⟩) := hI.vl 5 rfl hbp; subst e5
    have e3 : u3 = (.bool true) := hI.vl 3 rfl hbp; subst e3
    rw [if_pos (show Region.wanted _ _ = true by rw [ha]; exact wanted_of (j := 3) (s := 108) (by kernel_rfl) (by kernel_rfl) (by kernel_rfl))]
    have HI := Veil.mk hI; clear hI; rw [pin ha]
    go_simp
    exact kSv hK HI hus hbs 6 _ rfl rfl hbp rfl rfl (HI.out.ph.pure 6 _)
   refine SG (fun bb aa w' us hus ha hI hbs hb0 hbp K hK => ?_) ?_
   ·obtain ⟨u0, u1, u2, u3, u4, u5, u6, u7, u8, u9, u10, u11, u12, rfl⟩ := lenA13 hus
    have e6 : u6 = .pointer (some ⟨o, 14, none⟩) := hI.vl 6 rfl hbp; subst e6
    have e3 : u3 = (.bool true) := hI.vl 3 rfl hbp; subst e3
    rw [if_pos (show Region.wanted _ _ = true by rw [ha]; exact wanted_of (j := 3) (s := 108) (by kernel_rfl) (by kernel_rfl) (by kernel_rfl))]
    have hbl := hI.ph.b
    have c14 : w'.cell? ⟨o, 14, none⟩ = some (.int .i64 (i : Int)) := (HBX.out.2.2.2.1.below hbl).at_ 14
    clear hbl
    have HI := Veil.mk hI; clear hI; rw [pin ha]
    go_simp
    exact kSv hK HI hus hbs 7 _ rfl rfl hbp rfl rfl (HI.out.ph.pure 7 _)
   refine SG (fun bb aa w' us hus ha hI hbs hb0 hbp K hK => ?_) ?_
   ·obtain ⟨u0, u1, u2, u3, u4, u5, u6, u7, u8, u9, u10, u11, u12, rfl⟩ := lenA13 hus
    have e3 : u3 = (.bool true) := hI.vl 3 rfl hbp; subst e3
    rw [if_pos (show Region.wanted _ _ = true by rw [ha]; exact wanted_of (j := 3) (s := 108) (by kernel_rfl) (by kernel_rfl) (by kernel_rfl))]
    have HI := Veil.mk hI; clear hI; rw [pin ha]
    go_simp
    exact kSv hK HI hus hbs 8 _ rfl rfl hbp rfl rfl (HI.out.ph.pure 8 _)
   refine SG (fun bb aa w' us hus ha hI hbs hb0 hbp K hK => ?_) ?_
   ·obtain ⟨u0, u1, u2, u3, u4, u5, u6, u7, u8, u9, u10, u11, u12, rfl⟩ := lenA13 hus
    have e8 : u8 = .pointer (some ⟨vb, 2, none⟩) := hI.vl 8 rfl hbp; subst e8
    have e3 : u3 = (.bool true) := hI.vl 3 rfl hbp; subst e3
    rw [if_pos (show Region.wanted _ _ = true by rw [ha]; exact wanted_of (j := 3) (s := 108) (by kernel_rfl) (by kernel_rfl) (by kernel_rfl))]
    have hbl := hI.ph.b
    have c2 : w'.cell? ⟨vb, 2, none⟩ = some (.string s) := (HBX.out.2.2.1.below hbl).at_ 2
    clear hbl
    have HI := Veil.mk hI; clear hI; rw [pin ha]
    go_simp
    exact kSv hK HI hus hbs 9 _ rfl rfl hbp rfl rfl (HI.out.ph.pure 9 _)
   refine SG (fun bb aa w' us hus ha hI hbs hb0 hbp K hK => ?_) ?_
   ·obtain ⟨u0, u1, u2, u3, u4, u5, u6, u7, u8, u9, u10, u11, u12, rfl⟩ := lenA13 hus
    have e9 : u9 = .string s := hI.vl 9 rfl hbp; subst e9
    have e3 : u3 = (.bool true) := hI.vl 3 rfl hbp; subst e3
    rw [if_pos (show Region.wanted _ _ = true by rw [ha]; exact wanted_of (j := 3) (s := 108) (by kernel_rfl) (by kernel_rfl) (by kernel_rfl))]
    have HI := Veil.mk hI; clear hI; rw [pin ha]
    go_simp
    go_at_call 80
    refine (HLN.out _).mono ?_
    rintro e9 w9 ⟨rfl, hm9⟩
    go_simp
    exact kSv hK HI hus hbs 10 _ rfl rfl hbp rfl rfl (HI.out.ph.quiet 10 _ hm9)
   refine SG (fun bb aa w' us hus ha hI hbs hb0 hbp K hK => ?_) ?_
   ·obtain ⟨u0, u1, u2, u3, u4, u5, u6, u7, u8, u9, u10, u11, u12, rfl⟩ := lenA13 hus
    have e7 : u7 = .int .i64 (i : Int) := hI.vl 7 rfl hbp; subst e7
    have e10 : u10 = .int .i64 ((s.size : Int) / 2) := hI.vl 10 rfl hbp; subst e10
    have e3 : u3 = (.bool true) := hI.vl 3 rfl hbp; subst e3
    rw [if_pos (show Region.wanted _ _ = true by rw [ha]; exact wanted_of (j := 3) (s := 108) (by kernel_rfl) (by kernel_rfl) (by kernel_rfl))]
    have HI := Veil.mk hI; clear hI; rw [pin ha]
    go_simp
    exact kSv hK HI hus hbs 11 _ rfl rfl hbp rfl rfl (HI.out.ph.pure 11 _)
   refine SC rfl (fun bb aa w' us hus ha hI hbs hb0 hbp K hK => ?_) ?_
   ·obtain ⟨u0, u1, u2, u3, u4, u5, u6, u7, u8, u9, u10, u11, u12, rfl⟩ := lenA13 hus
    have e3 : u3 = (.bool true) := hI.vl 3 rfl hbp; subst e3
    have e11 : u11 = (.bool false) := hI.vl 11 rfl hbp; subst e11
    have HI := Veil.mk hI; clear hI; rw [pin ha]
    go_simp
    exact kSv hK HI hus hbs 12 _ rfl rfl hbp rfl rfl (HI.out.ph.pure 12 _)
   exact Steps.nil
  ·intro us wE hus dd hD2 hJ
   obtain ⟨p0, p1, p2, p3, p4, p5, p6, p7, p8, p9, p10, p11, p12, rfl⟩ := lenA13 hus
   have hph := hJ.ph
   have e0 : p0 = .pointer (some ⟨vb, 0, none⟩) := hJ.ve 0 rfl rfl hD2; subst e0
   have e1 : p1 = .int .i64 7 := hJ.ve 1 rfl rfl hD2; subst e1
   have e2 : p2 = (.bool true) := hJ.ve 2 rfl rfl hD2; subst e2
   have e3 : p3 = (.bool true) := hJ.ve 3 rfl rfl hD2; subst e3
   have e4 : p4 = .pointer (some ⟨o, 0, none⟩) := hJ.ve 4 rfl rfl hD2; subst e4
   have e5 : p5 = .pointer (some ⟨o, 0, none⟩) := hJ.ve 5 rfl rfl hD2; subst e5
   have e6 : p6 = .pointer (some ⟨o, 14, none⟩) := hJ.ve 6 rfl rfl hD2; subst e6
   have e7 : p7 = .int .i64 (i : Int) := hJ.ve 7 rfl rfl hD2; subst e7
   have e8 : p8 = .pointer (some ⟨vb, 2, none⟩) := hJ.ve 8 rfl rfl hD2; subst e8
   have e9 : p9 = .string s := hJ.ve 9 rfl rfl hD2; subst e9
   have e10 : p10 = .int .i64 ((s.size : Int) / 2) := hJ.ve 10 rfl rfl hD2; subst e10
   have e11 : p11 = (.bool false) := hJ.ve 11 rfl rfl hD2; subst e11
   have e12 : p12 = (.bool false) := hJ.ve 12 rfl rfl hD2; subst e12
   clear hJ
   have HQ := Veil.mk hph.b
   clear hph hD2
   simp only [puts, setAll, List.setIfInBounds_toArray, List.set_cons_zero, List.set_cons_succ]
   have HOE := Veil.mk (HBX.out.2.2.2.1.below HQ.out)
   have e5 : wE.cell? ⟨o, 5, none⟩ = some (.slice (some ⟨g, 0, none⟩) 1 1) := HOE.out.at_ 5
   have f5 := HOE.out.free 5
   go_upto_region 22 with (fail)
   have hmE : MP wE h A m f ts := (HP0.out.on HBF.out).on HQ.out
   have hob9 := HOE.out.put 5 (.slice none 0 0)
   have hst := hmE.stepV_at (V := fun _ => False) (W' := wE.setCell ⟨o, 5, none⟩ (.slice none 0 0)) HPL.out.1 rfl (.pointer none) (.slice none 0 0) .nilIface ⟨kd, .slice none 0 0, (i : Int), false⟩ (fun _ => False) [] (fun k hk => hk.elim) (Touch.put (.inl rfl) _ _) hob9 (.inl ⟨rfl, rfl, rfl⟩) (fun k hk => hk.elim)
   have hbk6 : Bk A W (wE.setCell ⟨o, 5, none⟩ (.slice none 0 0)) := (Bk.of_below HPL.out.2 (HBB.out.1.trans ((blw2 HBF.out HQ.out).mono HBB.out.1.size))).trans ⟨hst.2.bel, fun k e he hl => hst.2.kv k e he hl (fun h => h)⟩
   obtain ⟨w8, hw8⟩ : ∃ w8, wE.setCell ⟨o, 5, none⟩ (.slice none 0 0) = w8 := ⟨_, rfl⟩
   have hto : Touch (fun k => k = o) wE w8 := by rw [<- hw8]; exact Touch.put (S := fun k => k = o) rfl _ _
   rw [hw8] at hst hbk6 ⊢
   have hno : ∀ k cs, Box wE k VTy cs -> Box w8 k VTy cs := fun k cs hx => hx.touch hto (hx.other HOE.out (by decide))
   have HKA := Veil.mk (hno _ _ (HBX.out.1.below HQ.out))
   have HKB := Veil.mk (hno _ _ (HBX.out.2.1.below HQ.out))
   have HS8 := Veil.mk (And.intro hst.1 hbk6)
   have HNK : Veil (kb ≠ ka) := ⟨by have := HW0.out.2.2; omega⟩
   clear e5 f5 hmE hob9 hst hbk6 hw8 hto hno HOE HQ HBX
   have z0 : w8.cell? ⟨ka, 0, none⟩ = some (.int .i64 0) := HKA.out.at_ 0
   have z1 : w8.cell? ⟨ka, 1, none⟩ = some (.int .i64 0) := HKA.out.at_ 1
   have z2 : w8.cell? ⟨ka, 2, none⟩ = some (.string ⟨#[]⟩) := HKA.out.at_ 2
   have q0 := HKA.out.free 0
   have q1 := HKA.out.free 1
   have q2 := HKA.out.free 2
   have x0 : w8.cell? ⟨kb, 0, none⟩ = some (.int .i64 0) := HKB.out.at_ 0
   have x1 : w8.cell? ⟨kb, 1, none⟩ = some (.int .i64 0) := HKB.out.at_ 1
   have x2 : w8.cell? ⟨kb, 2, none⟩ = some (.string ⟨#[]⟩) := HKB.out.at_ 2
   have y0 := HKB.out.free 0
   have y1 := HKB.out.free 1
   have y2 := HKB.out.free 2
   have hnk := HNK.out
   go_wp2
   have ha3 := ((HKA.out.put 0 (.int .i64 0)).put 1 (.int .i64 0)).put 2 (.string ⟨#[]⟩)
   have ha := ((ha3.touch (Touch.put (S := fun k => k = kb) rfl 0 (.int .i64 0)) (Ne.symm hnk)).touch (Touch.put (S := fun k => k = kb) rfl 1 (.int .i64 0)) (Ne.symm hnk)).touch (Touch.put (S := fun k => k = kb) rfl 2 (.string ⟨#[]⟩)) (Ne.symm hnk)
   have hk0 := ((HKB.out.touch (Touch.put (S := fun k => k = ka) rfl 0 (.int .i64 0)) hnk).touch (Touch.put (S := fun k => k = ka) rfl 1 (.int .i64 0)) hnk).touch (Touch.put (S := fun k => k = ka) rfl 2 (.string ⟨#[]⟩)) hnk
   have hb3 := ((hk0.put 0 (.int .i64 0)).put 1 (.int .i64 0)).put 2 (.string ⟨#[]⟩)
   have r0 := ha.at_ 0
   have r1 := ha.at_ 1
   have r2 := ha.at_ 2
   have s0 := hb3.at_ 0
   have s1 := hb3.at_ 1
   have s2 := hb3.at_ 2
   have hp3 := ((HS8.out.1.putv HKA.out.lab 0 (.int .i64 0)).putv (HKA.out.put 0 _).lab 1 (.int .i64 0)).putv ((HKA.out.put 0 _).put 1 _).lab 2 (.string ⟨#[]⟩)
   have hp6 := ((hp3.putv hk0.lab 0 (.int .i64 0)).putv (hk0.put 0 _).lab 1 (.int .i64 0)).putv ((hk0.put 0 _).put 1 _).lab 2 (.string ⟨#[]⟩)
   have hk3 := ((HS8.out.2.setv HLO.out.1 HPL.out.2 0 (.int .i64 0)).setv HLO.out.1 HPL.out.2 1 (.int .i64 0)).setv HLO.out.1 HPL.out.2 2 (.string ⟨#[]⟩)
   have hk6 := ((hk3.setv HLO.out.2 HPL.out.2 0 (.int .i64 0)).setv HLO.out.2 HPL.out.2 1 (.int .i64 0)).setv HLO.out.2 HPL.out.2 2 (.string ⟨#[]⟩)
   exact bodyPost_ret (v := .tuple #[valV zV, valV zV, .int .i64 0]) (by simp [results, Tryz.results365, go_sem, r0, r1, r2, s0, s1, s2]) rfl ⟨rfl, hp6, hk6⟩
set_option maxHeartbeats 8000000 in
set_option maxRecDepth 100000 in
theorem MP.adv_done (H : MP W h A m f ts) {iw o : Nat} {kd at_ : Int} (hp : ts[iw]? = some (TO.wkr o kd (.slice none 0 0) at_)) :
  Calls Tryz.prog 365 #[.pointer (some ⟨m, 0, none⟩), .pointer (some ⟨o, 0, none⟩)] W fun e w' => e = .returned (.tuple #[valV zV, valV zV, .int .i64 0]) /\ MP w' h A m f ts /\ Bk A W w' := by
 have hA := Nat.le_of_lt H.mm.alt
 have hob : Box W o 63 (objF 5 12 false (.pointer none) (.slice none 0 0) .nilIface ⟨kd, .slice none 0 0, at_, false⟩) := H.mem_b (List.mem_of_getElem? hp) rfl
 obtain ⟨ka, hka⟩ : ∃ ka, W.heap.size = ka := ⟨_, rfl⟩
 obtain ⟨kb, hkb⟩ : ∃ kb, ka + 1 = kb := ⟨_, rfl⟩
 obtain ⟨W0, hW0⟩ : ∃ W0, ((W.alloc (.cells #[.int .i64 0, .int .i64 0, .string ⟨#[]⟩] 28)).alloc (.cells #[.int .i64 0, .int .i64 0, .string ⟨#[]⟩] 28)) = W0 := ⟨_, rfl⟩
 have bb : Below W.heap.size W W0 := by rw [<- hW0]; exact (((Below.refl _ _).alloc (Nat.le_refl _) _).alloc (by simp only [World.size_alloc]; omega) _)
 have xka : Box W0 ka 28 #[.int .i64 0, .int .i64 0, .string ⟨#[]⟩] := by have h9 := ((Box.new W 28 #[.int .i64 0, .int .i64 0, .string ⟨#[]⟩]).more (.cells #[.int .i64 0, .int .i64 0, .string ⟨#[]⟩] 28)); rw [hW0, hka] at h9; exact h9
 have xkb : Box W0 kb 28 #[.int .i64 0, .int .i64 0, .string ⟨#[]⟩] := by have h9 := Box.new (W.alloc (.cells #[.int .i64 0, .int .i64 0, .string ⟨#[]⟩] 28)) 28 #[.int .i64 0, .int .i64 0, .string ⟨#[]⟩]; rw [hW0, show (W.alloc (.cells #[.int .i64 0, .int .i64 0, .string ⟨#[]⟩] 28)).heap.size = kb from by simp only [World.size_alloc]; omega] at h9; exact h9
 have HW0 := Veil.mk (And.intro hW0 (And.intro hka (hkb)))
 have HBB := Veil.mk (And.intro bb (And.intro xka (xkb)))
 have HLO : Veil (W.heap.size <= ka /\ W.heap.size <= kb) := ⟨by omega⟩
 clear hW0 bb hka xka hkb xkb
 have HS8 := Veil.mk (And.intro (H.on HBB.out.1) (Bk.of_below hA HBB.out.1))
 have HPL := Veil.mk (And.intro trivial hA)
 have d5 : W0.cell? ⟨o, 5, none⟩ = some (.slice none 0 0) := (hob.below HBB.out.1).at_ 5
 have HKA := Veil.mk HBB.out.2.1
 have HKB := Veil.mk HBB.out.2.2
 have hnk : kb ≠ ka := by have := HW0.out.2.2; omega
 have z0 : W0.cell? ⟨ka, 0, none⟩ = some (.int .i64 0) := HKA.out.at_ 0
 have z1 : W0.cell? ⟨ka, 1, none⟩ = some (.int .i64 0) := HKA.out.at_ 1
 have z2 : W0.cell? ⟨ka, 2, none⟩ = some (.string ⟨#[]⟩) := HKA.out.at_ 2
 have q0 := HKA.out.free 0
 have q1 := HKA.out.free 1
 have q2 := HKA.out.free 2
 have x0 : W0.cell? ⟨kb, 0, none⟩ = some (.int .i64 0) := HKB.out.at_ 0
 have x1 : W0.cell? ⟨kb, 1, none⟩ = some (.int .i64 0) := HKB.out.at_ 1
 have x2 : W0.cell? ⟨kb, 2, none⟩ = some (.string ⟨#[]⟩) := HKB.out.at_ 2
 have y0 := HKB.out.free 0
 have y1 := HKB.out.free 1
 have y2 := HKB.out.free 2
 clear H hp hA hob
 go_enter Tryz.func365, Tryz.ntmps365
 go_upto_region 1 with (fail)
 rw [HW0.out.1, HW0.out.2.1, HW0.out.2.2]
 go_wp2
 have ha3 := ((HKA.out.put 0 (.int .i64 0)).put 1 (.int .i64 0)).put 2 (.string ⟨#[]⟩)
 have ha := ((ha3.touch (Touch.put (S := fun k => k = kb) rfl 0 (.int .i64 0)) (Ne.symm hnk)).touch (Touch.put (S := fun k => k = kb) rfl 1 (.int .i64 0)) (Ne.symm hnk)).touch (Touch.put (S := fun k => k = kb) rfl 2 (.string ⟨#[]⟩)) (Ne.symm hnk)
 have hk0 := ((HKB.out.touch (Touch.put (S := fun k => k = ka) rfl 0 (.int .i64 0)) hnk).touch (Touch.put (S := fun k => k = ka) rfl 1 (.int .i64 0)) hnk).touch (Touch.put (S := fun k => k = ka) rfl 2 (.string ⟨#[]⟩)) hnk
 have hb3 := ((hk0.put 0 (.int .i64 0)).put 1 (.int .i64 0)).put 2 (.string ⟨#[]⟩)
 have r0 := ha.at_ 0
 have r1 := ha.at_ 1
 have r2 := ha.at_ 2
 have s0 := hb3.at_ 0
 have s1 := hb3.at_ 1
 have s2 := hb3.at_ 2
 have hp3 := ((HS8.out.1.putv HKA.out.lab 0 (.int .i64 0)).putv (HKA.out.put 0 _).lab 1 (.int .i64 0)).putv ((HKA.out.put 0 _).put 1 _).lab 2 (.string ⟨#[]⟩)
 have hp6 := ((hp3.putv hk0.lab 0 (.int .i64 0)).putv (hk0.put 0 _).lab 1 (.int .i64 0)).putv ((hk0.put 0 _).put 1 _).lab 2 (.string ⟨#[]⟩)
 have hk3 := ((HS8.out.2.setv HLO.out.1 HPL.out.2 0 (.int .i64 0)).setv HLO.out.1 HPL.out.2 1 (.int .i64 0)).setv HLO.out.1 HPL.out.2 2 (.string ⟨#[]⟩)
 have hk6 := ((hk3.setv HLO.out.2 HPL.out.2 0 (.int .i64 0)).setv HLO.out.2 HPL.out.2 1 (.int .i64 0)).setv HLO.out.2 HPL.out.2 2 (.string ⟨#[]⟩)
 exact bodyPost_ret (v := .tuple #[valV zV, valV zV, .int .i64 0]) (by simp [results, Tryz.results365, go_sem, r0, r1, r2, s0, s1, s2]) rfl ⟨rfl, hp6, hk6⟩
end
section
variable {W : World} {h A m : Nat} {f : MF} {ts ts1 : List TO}
set_option maxHeartbeats 16000000 in
set_option maxRecDepth 100000 in
theorem MP.next_more (H : MP W h A m f ts) (hf : f 0 = 1) {iw o g : Nat} {kd at1 : Int} {sl0 : Value} {at0 : Int} (k v : Vt) (hkd : kd = 2 \/ kd = 3) (hp : ts[iw]? = some (TO.wkr o kd sl0 at0)) (hp1 : ts1[iw]? = some (TO.wkr o kd (.slice (some ⟨g, 0, none⟩) 1 1) at1)) (hl1 : ts1.length < 99999)
  (HAV : Veil (∀ w', Below W.heap.size W w' -> Calls Tryz.prog 365 #[.pointer (some ⟨m, 0, none⟩), .pointer (some ⟨o, 0, none⟩)] w' fun e w9 => e = .returned (.tuple #[valV k, valV v, .int .i64 0]) /\ MP w9 h A m f ts1 /\ Bk A w' w9)) :
  Calls Tryz.prog 352 #[.pointer (some ⟨m, 0, none⟩), valV (9, (iw : Int) + 1, ⟨#[]⟩)] W fun e w' => e = .returned (.tuple #[valV (9, (ts1.length : Int) + 1, ⟨#[]⟩), .int .i64 0]) /\ ∃ ob pv F, MP w' h A m f (ts1 ++ [(⟨ob, 0, 1, pv, .slice none 0 0, .nilIface, kd0, F, [(kVal, v, 7), (kDone, tvV false, 7)]⟩ : TO)]) /\ Bk A W w' := by
 obtain ⟨fv, hfv⟩ : ∃ fv : Vt, ((9, (iw : Int) + 1, ⟨#[]⟩) : Vt) = fv := ⟨_, rfl⟩
 obtain ⟨r, hr⟩ : ∃ r : Int, (ts1.length : Int) + 1 = r := ⟨_, rfl⟩
 rw [hr]
 have hA := Nat.le_of_lt H.mm.alt
 obtain ⟨tb, htb⟩ : ∃ tb, W.heap.size = tb := ⟨_, rfl⟩
 obtain ⟨rb, hrb⟩ : ∃ rb, tb + 1 = rb := ⟨_, rfl⟩
 obtain ⟨W0, hW0⟩ : ∃ W0, ((W.alloc (.cells #[.int .i64 fv.1, .int .i64 fv.2.1, .string fv.2.2] 28)).alloc (.cells #[.int .i64 0, .int .i64 0, .string ⟨#[]⟩] 28)) = W0 := ⟨_, rfl⟩
 have bb : Below W.heap.size W W0 := by rw [<- hW0]; exact (((Below.refl _ _).alloc (Nat.le_refl _) _).alloc (by simp only [World.size_alloc]; omega) _)
 have xtb : Box W0 tb 28 #[.int .i64 fv.1, .int .i64 fv.2.1, .string fv.2.2] := by have h9 := ((Box.new W 28 #[.int .i64 fv.1, .int .i64 fv.2.1, .string fv.2.2]).more (.cells #[.int .i64 0, .int .i64 0, .string ⟨#[]⟩] 28)); rw [hW0, htb] at h9; exact h9
 have xrb : Box W0 rb 28 #[.int .i64 0, .int .i64 0, .string ⟨#[]⟩] := by have h9 := Box.new (W.alloc (.cells #[.int .i64 fv.1, .int .i64 fv.2.1, .string fv.2.2] 28)) 28 #[.int .i64 0, .int .i64 0, .string ⟨#[]⟩]; rw [hW0, show (W.alloc (.cells #[.int .i64 fv.1, .int .i64 fv.2.1, .string fv.2.2] 28)).heap.size = rb from by simp only [World.size_alloc]; omega] at h9; exact h9
 have HW0 := Veil.mk (And.intro hW0 (And.intro htb (hrb)))
 have HBB := Veil.mk (And.intro bb (And.intro xtb (xrb)))
 have HLO : Veil (W.heap.size <= tb /\ W.heap.size <= rb) := ⟨by omega⟩
 clear hW0 bb htb xtb hrb xrb
 have HOF : Veil (∀ w9, Below W.heap.size W w9 -> Calls Tryz.prog 14 #[.pointer (some ⟨h, 0, none⟩), valV fv] w9 fun e w' => e = .returned (.pointer (some ⟨o, 0, none⟩)) /\ Below w9.heap.size w9 w') := ⟨fun w9 hb => by rw [<- hfv]; exact (H.on hb).of_at hp rfl ⟨#[]⟩⟩
 have HCM : Veil (∀ w9, Below W.heap.size W w9 -> w9.cell? ⟨m, 0, none⟩ = some (.pointer (some ⟨h, 0, none⟩))) := ⟨fun w9 hb => (H.on hb).mm.mb.at_ 0⟩
 have HCL : Veil (∀ w9, Below W.heap.size W w9 -> w9.cell? ⟨o, 0, none⟩ = some (.int .i64 5)) := ⟨fun w9 hb => ((H.on hb).mem_b (List.mem_of_getElem? hp) rfl).at_ 0⟩
 have HRS : Veil (∀ w9 (x : Vt) (dn : Bool), MP w9 h A m f ts1 -> Calls Tryz.prog 366 #[.pointer (some ⟨m, 0, none⟩), valV x, .bool dn] w9 fun e w' => e = .returned (valV (9, r, ⟨#[]⟩)) /\ ∃ ob pv F, MP w' h A m f (ts1 ++ [(⟨ob, 0, 1, pv, .slice none 0 0, .nilIface, kd0, F, [(kVal, x, 7), (kDone, tvV dn, 7)]⟩ : TO)]) /\ Bk A w9 w') := ⟨fun w9 x dn h9 => by rw [<- hr]; exact h9.result hf hl1 x dn⟩
 have HAA := Veil.mk hA
 have HP1 := Veil.mk hp1
 rw [hfv]
 have HKD := Veil.mk hkd
 clear H hf hkd hp hp1 hl1 hfv hr hA
 go_enter Tryz.func352, Tryz.ntmps352
 go_upto_region 1 with (fail)
 rw [HW0.out.1, HW0.out.2.1, HW0.out.2.2]
 obtain ⟨WD, hWD⟩ : ∃ WD, W0.drew = WD := ⟨_, rfl⟩
 have HBF : Veil (Below W.heap.size W WD) := ⟨by rw [<- hWD]; exact HBB.out.1.drew⟩
 have HXtb : Veil (Box WD tb 28 #[.int .i64 fv.1, .int .i64 fv.2.1, .string fv.2.2]) := ⟨by rw [<- hWD]; exact HBB.out.2.1.drew⟩
 have HXrb : Veil (Box WD rb 28 #[.int .i64 0, .int .i64 0, .string ⟨#[]⟩]) := ⟨by rw [<- hWD]; exact HBB.out.2.2.drew⟩
 have HWD := Veil.mk hWD
 clear hWD HBB
 clear HW0
 refine wp_region_chain (some (· = .pointer (some ⟨m, 0, none⟩)) :: some (· = .pointer (some ⟨m, 0, none⟩)) :: some (· = .pointer (some ⟨m, 0, none⟩)) :: some (· = .pointer (some ⟨h, 0, none⟩)) :: some (· = valV fv) :: some (· = .pointer (some ⟨o, 0, none⟩)) :: some (· = .pointer (some ⟨o, 0, none⟩)) :: [] : List (Option (Value -> Prop))) (QT WD) [some 10, some 11, some 12, some 13, some 14, some 15, some 6] (curV' _ [some 10, some 11, some 12, some 13, some 14, some 15, some 6]) (by kernel_rfl) rfl rfl (puts_cur _ _) (by rw [HWD.out]; exact QT.start) ?_ (by kernel_rfl) ?_
 ·refine SC rfl (fun bb aa w' us hus ha hI hbs hb0 hbp K hK => ?_) ?_
  ·obtain ⟨u0, u1, u2, u3, u4, u5, u6, rfl⟩ := lenA7 hus
   have HI := Veil.mk hI; clear hI; rw [pin ha]
   go_simp
   exact kSv hK HI hus hbs 0 _ rfl rfl hbp rfl rfl (HI.out.ph.pure 0 _)
  refine SC rfl (fun bb aa w' us hus ha hI hbs hb0 hbp K hK => ?_) ?_
  ·obtain ⟨u0, u1, u2, u3, u4, u5, u6, rfl⟩ := lenA7 hus
   have e0 : u0 = .pointer (some ⟨m, 0, none⟩) := hI.vl 0 rfl hbp; subst e0
   have HI := Veil.mk hI; clear hI; rw [pin ha]
   go_simp
   exact kSv hK HI hus hbs 1 _ rfl rfl hbp rfl rfl (HI.out.ph.pure 1 _)
  refine SC rfl (fun bb aa w' us hus ha hI hbs hb0 hbp K hK => ?_) ?_
  ·obtain ⟨u0, u1, u2, u3, u4, u5, u6, rfl⟩ := lenA7 hus
   have e1 : u1 = .pointer (some ⟨m, 0, none⟩) := hI.vl 1 rfl hbp; subst e1
   have HI := Veil.mk hI; clear hI; rw [pin ha]
   go_simp
   exact kSv hK HI hus hbs 2 _ rfl rfl hbp rfl rfl (HI.out.ph.pure 2 _)
  refine SC rfl (fun bb aa w' us hus ha hI hbs hb0 hbp K hK => ?_) ?_
  ·obtain ⟨u0, u1, u2, u3, u4, u5, u6, rfl⟩ := lenA7 hus
   have e2 : u2 = .pointer (some ⟨m, 0, none⟩) := hI.vl 2 rfl hbp; subst e2
   have hbl := hI.ph.b
   have c0 : w'.cell? ⟨m, 0, none⟩ = some (.pointer (some ⟨h, 0, none⟩)) := HCM.out w' (HBF.out.trans (hbl.mono HBF.out.size))
   clear hbl
   have HI := Veil.mk hI; clear hI; rw [pin ha]
   go_simp
   exact kSv hK HI hus hbs 3 _ rfl rfl hbp rfl rfl (HI.out.ph.pure 3 _)
  refine SC rfl (fun bb aa w' us hus ha hI hbs hb0 hbp K hK => ?_) ?_
  ·obtain ⟨u0, u1, u2, u3, u4, u5, u6, rfl⟩ := lenA7 hus
   have hbl := hI.ph.b
   have c0 : w'.cell? ⟨tb, 0, none⟩ = some (.int .i64 fv.1) := (HXtb.out.below hbl).at_ 0
   have c1 : w'.cell? ⟨tb, 1, none⟩ = some (.int .i64 fv.2.1) := (HXtb.out.below hbl).at_ 1
   have c2 : w'.cell? ⟨tb, 2, none⟩ = some (.string fv.2.2) := (HXtb.out.below hbl).at_ 2
   clear hbl
   have HI := Veil.mk hI; clear hI; rw [pin ha]
   go_simp
   exact kSv hK HI hus hbs 4 _ rfl rfl hbp rfl rfl (HI.out.ph.pure 4 _)
  refine SC rfl (fun bb aa w' us hus ha hI hbs hb0 hbp K hK => ?_) ?_
  ·obtain ⟨u0, u1, u2, u3, u4, u5, u6, rfl⟩ := lenA7 hus
   have e3 : u3 = .pointer (some ⟨h, 0, none⟩) := hI.vl 3 rfl hbp; subst e3
   have e4 : u4 = valV fv := hI.vl 4 rfl hbp; subst e4
   have HI := Veil.mk hI; clear hI; rw [pin ha]
   go_simp
   go_at_call 14
   refine (HOF.out w' (HBF.out.trans (HI.out.ph.b.mono HBF.out.size))).mono ?_
   rintro e9 w9 ⟨rfl, hm9⟩
   go_simp
   exact kSv hK HI hus hbs 5 _ rfl rfl hbp rfl rfl (HI.out.ph.quiet 5 _ hm9)
  refine SC rfl (fun bb aa w' us hus ha hI hbs hb0 hbp K hK => ?_) ?_
  ·obtain ⟨u0, u1, u2, u3, u4, u5, u6, rfl⟩ := lenA7 hus
   have e5 : u5 = .pointer (some ⟨o, 0, none⟩) := hI.vl 5 rfl hbp; subst e5
   have HI := Veil.mk hI; clear hI; rw [pin ha]
   go_simp
   exact kSv hK HI hus hbs 6 _ rfl rfl hbp rfl rfl (HI.out.ph.pure 6 _)
  exact Steps.nil
 ·intro us wE hus dd hD2 hJ
  obtain ⟨p0, p1, p2, p3, p4, p5, p6, rfl⟩ := lenA7 hus
  have hph := hJ.ph
  have e0 : p0 = .pointer (some ⟨m, 0, none⟩) := hJ.ve 0 rfl rfl hD2; subst e0
  have e1 : p1 = .pointer (some ⟨m, 0, none⟩) := hJ.ve 1 rfl rfl hD2; subst e1
  have e2 : p2 = .pointer (some ⟨m, 0, none⟩) := hJ.ve 2 rfl rfl hD2; subst e2
  have e3 : p3 = .pointer (some ⟨h, 0, none⟩) := hJ.ve 3 rfl rfl hD2; subst e3
  have e4 : p4 = valV fv := hJ.ve 4 rfl rfl hD2; subst e4
  have e5 : p5 = .pointer (some ⟨o, 0, none⟩) := hJ.ve 5 rfl rfl hD2; subst e5
  have e6 : p6 = .pointer (some ⟨o, 0, none⟩) := hJ.ve 6 rfl rfl hD2; subst e6
  clear hJ
  have HQ := Veil.mk hph.b
  clear hph hD2
  simp only [puts, setAll, List.setIfInBounds_toArray, List.set_cons_zero, List.set_cons_succ]
  have hbE := HBF.out.trans (HQ.out.mono HBF.out.size)
  have d0 : wE.cell? ⟨o, 0, none⟩ = some (.int .i64 5) := HCL.out wE hbE
  have HXE := Veil.mk (HXrb.out.below HQ.out)
  have HAE := Veil.mk (HAV.out wE hbE)
  have HBE := Veil.mk (Bk.of_below HAA.out hbE)
  clear hbE HOF HCM HCL HAV HQ HXtb HXrb HBF HWD
  go_upto_region 4 with (fail)
  clear d0
  go_upto_region 5 with (go_at_call 365; ((with_reducible refine HAE.out.mono ?_); rintro e w4 ⟨rfl, hm4, hb4⟩; have HM4 := Veil.mk (And.intro hm4 (And.intro (HBE.out.trans hb4) (hb4.boxE HXE.out (by decide)))); clear hm4 hb4))
  obtain ⟨vb, hvb⟩ : ∃ vb, w4.heap.size + 1 = vb := ⟨_, rfl⟩
  obtain ⟨w5, hw5⟩ : ∃ w5, (w4.alloc (.cells #[.int .i64 k.1, .int .i64 k.2.1, .string k.2.2] 28)).alloc (.cells #[.int .i64 v.1, .int .i64 v.2.1, .string v.2.2] 28) = w5 := ⟨_, rfl⟩
  have bx := Box.new (w4.alloc (.cells #[.int .i64 k.1, .int .i64 k.2.1, .string k.2.2] 28)) 28 #[.int .i64 v.1, .int .i64 v.2.1, .string v.2.2]
  have bl : Below w4.heap.size w4 ((w4.alloc (.cells #[.int .i64 k.1, .int .i64 k.2.1, .string k.2.2] 28)).alloc (.cells #[.int .i64 v.1, .int .i64 v.2.1, .string v.2.2] 28)) := ((Below.refl _ _).alloc (Nat.le_refl _) _).alloc (by simp only [World.size_alloc]; omega) _
  rw [hw5, show (w4.alloc (.cells #[.int .i64 k.1, .int .i64 k.2.1, .string k.2.2] 28)).heap.size = vb from by rw [<- hvb]; simp only [World.size_alloc]] at bx
  rw [hw5] at bl ⊢
  rw [hvb]
  have HM5 := Veil.mk (And.intro (HM4.out.1.on bl) (And.intro (HM4.out.2.1.trans (Bk.of_below (Nat.le_of_lt HM4.out.1.mm.alt) bl)) (HM4.out.2.2.below bl)))
  clear bl hw5 hvb HM4 HAE HBE HXE
  have hob := HM5.out.1.mem_b (List.mem_of_getElem? HP1.out) rfl
  have d5 : w5.cell? ⟨o, 5, none⟩ = some (.slice (some ⟨g, 0, none⟩) 1 1) := hob.at_ 5
  have d13 : w5.cell? ⟨o, 13, none⟩ = some (.int .i64 kd) := hob.at_ 13
  have e1 : (kd == 1) = false := by rcases HKD.out with h9 | h9 <;> rw [h9] <;> rfl
  have e0 : (kd == 0) = false := by rcases HKD.out with h9 | h9 <;> rw [h9] <;> rfl
  have f1 : (kd = 1) = False := by rcases HKD.out with h9 | h9 <;> rw [h9] <;> simp
  have f0 : (kd = 0) = False := by rcases HKD.out with h9 | h9 <;> rw [h9] <;> simp
  have c0 : w5.cell? ⟨vb, 0, none⟩ = some (.int .i64 v.1) := bx.at_ 0
  have c1 : w5.cell? ⟨vb, 1, none⟩ = some (.int .i64 v.2.1) := bx.at_ 1
  have c2 : w5.cell? ⟨vb, 2, none⟩ = some (.string v.2.2) := bx.at_ 2
  have HR5 := Veil.mk (HRS.out w5 v false HM5.out.1)
  clear hob bx HRS
  go_wp2_with (go_at_call 366; ((with_reducible refine HR5.out.mono ?_); rintro e w6 ⟨rfl, ob, pv, F, hm6, hb6⟩; have HM6 := Veil.mk (And.intro hm6 (And.intro (HM5.out.2.1.trans hb6) (hb6.boxE HM5.out.2.2 (by decide)))); clear hm6 hb6; have z0 : w6.cell? ⟨rb, 0, none⟩ = some (.int .i64 0) := HM6.out.2.2.at_ 0; have z1 : w6.cell? ⟨rb, 1, none⟩ = some (.int .i64 0) := HM6.out.2.2.at_ 1; have z2 : w6.cell? ⟨rb, 2, none⟩ = some (.string ⟨#[]⟩) := HM6.out.2.2.at_ 2; have q0 := HM6.out.2.2.free 0; have q1 := HM6.out.2.2.free 1; have q2 := HM6.out.2.2.free 2))
  have hr3 := ((HM6.out.2.2.put 0 (.int .i64 9)).put 1 (.int .i64 r)).put 2 (.string ⟨#[]⟩)
  have y0 := hr3.at_ 0
  have y1 := hr3.at_ 1
  have y2 := hr3.at_ 2
  have hp3 := ((HM6.out.1.putv HM6.out.2.2.lab 0 (.int .i64 9)).putv (HM6.out.2.2.put 0 _).lab 1 (.int .i64 r)).putv ((HM6.out.2.2.put 0 _).put 1 _).lab 2 (.string ⟨#[]⟩)
  have hk3 := ((HM6.out.2.1.setv HLO.out.2 HAA.out 0 (.int .i64 9)).setv HLO.out.2 HAA.out 1 (.int .i64 r)).setv HLO.out.2 HAA.out 2 (.string ⟨#[]⟩)
  exact bodyPost_ret (v := .tuple #[valV (9, r, ⟨#[]⟩), .int .i64 0]) (by simp [results, Tryz.results352, go_sem, y0, y1, y2]) rfl ⟨rfl, ob, pv, F, hp3, hk3⟩
end
section
variable {W : World} {h A m : Nat} {f : MF} {ts ts1 : List TO}
set_option maxHeartbeats 16000000 in
set_option maxRecDepth 100000 in
theorem MP.next_end (H : MP W h A m f ts) (hf : f 0 = 1) {iw o : Nat} {kd at1 : Int} {sl0 : Value} {at0 : Int} (k v : Vt) (hkd : kd = 2 \/ kd = 3) (hp : ts[iw]? = some (TO.wkr o kd sl0 at0)) (hp1 : ts1[iw]? = some (TO.wkr o kd (.slice none 0 0) at1)) (hl1 : ts1.length < 99999)
  (HAV : Veil (∀ w', Below W.heap.size W w' -> Calls Tryz.prog 365 #[.pointer (some ⟨m, 0, none⟩), .pointer (some ⟨o, 0, none⟩)] w' fun e w9 => e = .returned (.tuple #[valV k, valV v, .int .i64 0]) /\ MP w9 h A m f ts1 /\ Bk A w' w9)) :
  Calls Tryz.prog 352 #[.pointer (some ⟨m, 0, none⟩), valV (9, (iw : Int) + 1, ⟨#[]⟩)] W fun e w' => e = .returned (.tuple #[valV (9, (ts1.length : Int) + 1, ⟨#[]⟩), .int .i64 0]) /\ ∃ ob pv F, MP w' h A m f (ts1 ++ [(⟨ob, 0, 1, pv, .slice none 0 0, .nilIface, kd0, F, [(kVal, zV, 7), (kDone, tvV true, 7)]⟩ : TO)]) /\ Bk A W w' := by
 obtain ⟨fv, hfv⟩ : ∃ fv : Vt, ((9, (iw : Int) + 1, ⟨#[]⟩) : Vt) = fv := ⟨_, rfl⟩
 obtain ⟨r, hr⟩ : ∃ r : Int, (ts1.length : Int) + 1 = r := ⟨_, rfl⟩
 rw [hr]
 have hA := Nat.le_of_lt H.mm.alt
 obtain ⟨tb, htb⟩ : ∃ tb, W.heap.size = tb := ⟨_, rfl⟩
 obtain ⟨rb, hrb⟩ : ∃ rb, tb + 1 = rb := ⟨_, rfl⟩
 obtain ⟨W0, hW0⟩ : ∃ W0, ((W.alloc (.cells #[.int .i64 fv.1, .int .i64 fv.2.1, .string fv.2.2] 28)).alloc (.cells #[.int .i64 0, .int .i64 0, .string ⟨#[]⟩] 28)) = W0 := ⟨_, rfl⟩
 have bb : Below W.heap.size W W0 := by rw [<- hW0]; exact (((Below.refl _ _).alloc (Nat.le_refl _) _).alloc (by simp only [World.size_alloc]; omega) _)
 have xtb : Box W0 tb 28 #[.int .i64 fv.1, .int .i64 fv.2.1, .string fv.2.2] := by have h9 := ((Box.new W 28 #[.int .i64 fv.1, .int .i64 fv.2.1, .string fv.2.2]).more (.cells #[.int .i64 0, .int .i64 0, .string ⟨#[]⟩] 28)); rw [hW0, htb] at h9; exact h9
 have xrb : Box W0 rb 28 #[.int .i64 0, .int .i64 0, .string ⟨#[]⟩] := by have h9 := Box.new (W.alloc (.cells #[.int .i64 fv.1, .int .i64 fv.2.1, .string fv.2.2] 28)) 28 #[.int .i64 0, .int .i64 0, .string ⟨#[]⟩]; rw [hW0, show (W.alloc (.cells #[.int .i64 fv.1, .int .i64 fv.2.1, .string fv.2.2] 28)).heap.size = rb from by simp only [World.size_alloc]; omega] at h9; exact h9
 have HW0 := Veil.mk (And.intro hW0 (And.intro htb (hrb)))
 have HBB := Veil.mk (And.intro bb (And.intro xtb (xrb)))
 have HLO : Veil (W.heap.size <= tb /\ W.heap.size <= rb) := ⟨by omega⟩
 clear hW0 bb htb xtb hrb xrb
 have HOF : Veil (∀ w9, Below W.heap.size W w9 -> Calls Tryz.prog 14 #[.pointer (some ⟨h, 0, none⟩), valV fv] w9 fun e w' => e = .returned (.pointer (some ⟨o, 0, none⟩)) /\ Below w9.heap.size w9 w') := ⟨fun w9 hb => by rw [<- hfv]; exact (H.on hb).of_at hp rfl ⟨#[]⟩⟩
 have HCM : Veil (∀ w9, Below W.heap.size W w9 -> w9.cell? ⟨m, 0, none⟩ = some (.pointer (some ⟨h, 0, none⟩))) := ⟨fun w9 hb => (H.on hb).mm.mb.at_ 0⟩
 have HCL : Veil (∀ w9, Below W.heap.size W w9 -> w9.cell? ⟨o, 0, none⟩ = some (.int .i64 5)) := ⟨fun w9 hb => ((H.on hb).mem_b (List.mem_of_getElem? hp) rfl).at_ 0⟩
 have HRS : Veil (∀ w9 (x : Vt) (dn : Bool), MP w9 h A m f ts1 -> Calls Tryz.prog 366 #[.pointer (some ⟨m, 0, none⟩), valV x, .bool dn] w9 fun e w' => e = .returned (valV (9, r, ⟨#[]⟩)) /\ ∃ ob pv F, MP w' h A m f (ts1 ++ [(⟨ob, 0, 1, pv, .slice none 0 0, .nilIface, kd0, F, [(kVal, x, 7), (kDone, tvV dn, 7)]⟩ : TO)]) /\ Bk A w9 w') := ⟨fun w9 x dn h9 => by rw [<- hr]; exact h9.result hf hl1 x dn⟩
 have HAA := Veil.mk hA
 have HP1 := Veil.mk hp1
 rw [hfv]
 have HKD := Veil.mk hkd
 clear H hf hkd hp hp1 hl1 hfv hr hA
 go_enter Tryz.func352, Tryz.ntmps352
 go_upto_region 1 with (fail)
 rw [HW0.out.1, HW0.out.2.1, HW0.out.2.2]
 obtain ⟨WD, hWD⟩ : ∃ WD, W0.drew = WD := ⟨_, rfl⟩
 have HBF : Veil (Below W.heap.size W WD) := ⟨by rw [<- hWD]; exact HBB.out.1.drew⟩
 have HXtb : Veil (Box WD tb 28 #[.int .i64 fv.1, .int .i64 fv.2.1, .string fv.2.2]) := ⟨by rw [<- hWD]; exact HBB.out.2.1.drew⟩
 have HXrb : Veil (Box WD rb 28 #[.int .i64 0, .int .i64 0, .string ⟨#[]⟩]) := ⟨by rw [<- hWD]; exact HBB.out.2.2.drew⟩
 have HWD := Veil.mk hWD
 clear hWD HBB
 clear HW0
 refine wp_region_chain (some (· = .pointer (some ⟨m, 0, none⟩)) :: some (· = .pointer (some ⟨m, 0, none⟩)) :: some (· = .pointer (some ⟨m, 0, none⟩)) :: some (· = .pointer (some ⟨h, 0, none⟩)) :: some (· = valV fv) :: some (· = .pointer (some ⟨o, 0, none⟩)) :: some (· = .pointer (some ⟨o, 0, none⟩)) :: [] : List (Option (Value -> Prop))) (QT WD) [some 10, some 11, some 12, some 13, some 14, some 15, some 6] (curV' _ [some 10, some 11, some 12, some 13, some 14, some 15, some 6]) (by kernel_rfl) rfl rfl (puts_cur _ _) (by rw [HWD.out]; exact QT.start) ?_ (by kernel_rfl) ?_
 ·refine SC rfl (fun bb aa w' us hus ha hI hbs hb0 hbp K hK => ?_) ?_
  ·obtain ⟨u0, u1, u2, u3, u4, u5, u6, rfl⟩ := lenA7 hus
   have HI := Veil.mk hI; clear hI; rw [pin ha]
   go_simp
   exact kSv hK HI hus hbs 0 _ rfl rfl hbp rfl rfl (HI.out.ph.pure 0 _)
  refine SC rfl (fun bb aa w' us hus ha hI hbs hb0 hbp K hK => ?_) ?_
  ·obtain ⟨u0, u1, u2, u3, u4, u5, u6, rfl⟩ := lenA7 hus
   have e0 : u0 = .pointer (some ⟨m, 0, none⟩) := hI.vl 0 rfl hbp; subst e0
   have HI := Veil.mk hI; clear hI; rw [pin ha]
   go_simp
   exact kSv hK HI hus hbs 1 _ rfl rfl hbp rfl rfl (HI.out.ph.pure 1 _)
  refine SC rfl (fun bb aa w' us hus ha hI hbs hb0 hbp K hK => ?_) ?_
  ·obtain ⟨u0, u1, u2, u3, u4, u5, u6, rfl⟩ := lenA7 hus
   have e1 : u1 = .pointer (some ⟨m, 0, none⟩) := hI.vl 1 rfl hbp; subst e1
   have HI := Veil.mk hI; clear hI; rw [pin ha]
   go_simp
   exact kSv hK HI hus hbs 2 _ rfl rfl hbp rfl rfl (HI.out.ph.pure 2 _)
  refine SC rfl (fun bb aa w' us hus ha hI hbs hb0 hbp K hK => ?_) ?_
  ·obtain ⟨u0, u1, u2, u3, u4, u5, u6, rfl⟩ := lenA7 hus
   have e2 : u2 = .pointer (some ⟨m, 0, none⟩) := hI.vl 2 rfl hbp; subst e2
   have hbl := hI.ph.b
   have c0 : w'.cell? ⟨m, 0, none⟩ = some (.pointer (some ⟨h, 0, none⟩)) := HCM.out w' (HBF.out.trans (hbl.mono HBF.out.size))
   clear hbl
   have HI := Veil.mk hI; clear hI; rw [pin ha]
   go_simp
   exact kSv hK HI hus hbs 3 _ rfl rfl hbp rfl rfl (HI.out.ph.pure 3 _)
  refine SC rfl (fun bb aa w' us hus ha hI hbs hb0 hbp K hK => ?_) ?_
  ·obtain ⟨u0, u1, u2, u3, u4, u5, u6, rfl⟩ := lenA7 hus
   have hbl := hI.ph.b
   have c0 : w'.cell? ⟨tb, 0, none⟩ = some (.int .i64 fv.1) := (HXtb.out.below hbl).at_ 0
   have c1 : w'.cell? ⟨tb, 1, none⟩ = some (.int .i64 fv.2.1) := (HXtb.out.below hbl).at_ 1
   have c2 : w'.cell? ⟨tb, 2, none⟩ = some (.string fv.2.2) := (HXtb.out.below hbl).at_ 2
   clear hbl
   have HI := Veil.mk hI; clear hI; rw [pin ha]
   go_simp
   exact kSv hK HI hus hbs 4 _ rfl rfl hbp rfl rfl (HI.out.ph.pure 4 _)
  refine SC rfl (fun bb aa w' us hus ha hI hbs hb0 hbp K hK => ?_) ?_
  ·obtain ⟨u0, u1, u2, u3, u4, u5, u6, rfl⟩ := lenA7 hus
   have e3 : u3 = .pointer (some ⟨h, 0, none⟩) := hI.vl 3 rfl hbp; subst e3
   have e4 : u4 = valV fv := hI.vl 4 rfl hbp; subst e4
   have HI := Veil.mk hI; clear hI; rw [pin ha]
   go_simp
   go_at_call 14
   refine (HOF.out w' (HBF.out.trans (HI.out.ph.b.mono HBF.out.size))).mono ?_
   rintro e9 w9 ⟨rfl, hm9⟩
   go_simp
   exact kSv hK HI hus hbs 5 _ rfl rfl hbp rfl rfl (HI.out.ph.quiet 5 _ hm9)
  refine SC rfl (fun bb aa w' us hus ha hI hbs hb0 hbp K hK => ?_) ?_
  ·obtain ⟨u0, u1, u2, u3, u4, u5, u6, rfl⟩ := lenA7 hus
   have e5 : u5 = .pointer (some ⟨o, 0, none⟩) := hI.vl 5 rfl hbp; subst e5
   have HI := Veil.mk hI; clear hI; rw [pin ha]
   go_simp
   exact kSv hK HI hus hbs 6 _ rfl rfl hbp rfl rfl (HI.out.ph.pure 6 _)
  exact Steps.nil
 ·intro us wE hus dd hD2 hJ
  obtain ⟨p0, p1, p2, p3, p4, p5, p6, rfl⟩ := lenA7 hus
  have hph := hJ.ph
  have e0 : p0 = .pointer (some ⟨m, 0, none⟩) := hJ.ve 0 rfl rfl hD2; subst e0
  have e1 : p1 = .pointer (some ⟨m, 0, none⟩) := hJ.ve 1 rfl rfl hD2; subst e1
  have e2 : p2 = .pointer (some ⟨m, 0, none⟩) := hJ.ve 2 rfl rfl hD2; subst e2
  have e3 : p3 = .pointer (some ⟨h, 0, none⟩) := hJ.ve 3 rfl rfl hD2; subst e3
  have e4 : p4 = valV fv := hJ.ve 4 rfl rfl hD2; subst e4
  have e5 : p5 = .pointer (some ⟨o, 0, none⟩) := hJ.ve 5 rfl rfl hD2; subst e5
  have e6 : p6 = .pointer (some ⟨o, 0, none⟩) := hJ.ve 6 rfl rfl hD2; subst e6
  clear hJ
  have HQ := Veil.mk hph.b
  clear hph hD2
  simp only [puts, setAll, List.setIfInBounds_toArray, List.set_cons_zero, List.set_cons_succ]
  have hbE := HBF.out.trans (HQ.out.mono HBF.out.size)
  have d0 : wE.cell? ⟨o, 0, none⟩ = some (.int .i64 5) := HCL.out wE hbE
  have HXE := Veil.mk (HXrb.out.below HQ.out)
  have HAE := Veil.mk (HAV.out wE hbE)
  have HBE := Veil.mk (Bk.of_below HAA.out hbE)
  clear hbE HOF HCM HCL HAV HQ HXtb HXrb HBF HWD
  go_upto_region 4 with (fail)
  clear d0
  go_upto_region 5 with (go_at_call 365; ((with_reducible refine HAE.out.mono ?_); rintro e w4 ⟨rfl, hm4, hb4⟩; have HM4 := Veil.mk (And.intro hm4 (And.intro (HBE.out.trans hb4) (hb4.boxE HXE.out (by decide)))); clear hm4 hb4))
  obtain ⟨vb, hvb⟩ : ∃ vb, w4.heap.size + 1 = vb := ⟨_, rfl⟩
  obtain ⟨w5, hw5⟩ : ∃ w5, (w4.alloc (.cells #[.int .i64 k.1, .int .i64 k.2.1, .string k.2.2] 28)).alloc (.cells #[.int .i64 v.1, .int .i64 v.2.1, .string v.2.2] 28) = w5 := ⟨_, rfl⟩
  have bx := Box.new (w4.alloc (.cells #[.int .i64 k.1, .int .i64 k.2.1, .string k.2.2] 28)) 28 #[.int .i64 v.1, .int .i64 v.2.1, .string v.2.2]
  have bl : Below w4.heap.size w4 ((w4.alloc (.cells #[.int .i64 k.1, .int .i64 k.2.1, .string k.2.2] 28)).alloc (.cells #[.int .i64 v.1, .int .i64 v.2.1, .string v.2.2] 28)) := ((Below.refl _ _).alloc (Nat.le_refl _) _).alloc (by simp only [World.size_alloc]; omega) _
  rw [hw5, show (w4.alloc (.cells #[.int .i64 k.1, .int .i64 k.2.1, .string k.2.2] 28)).heap.size = vb from by rw [<- hvb]; simp only [World.size_alloc]] at bx
  rw [hw5] at bl ⊢
  rw [hvb]
  have HM5 := Veil.mk (And.intro (HM4.out.1.on bl) (And.intro (HM4.out.2.1.trans (Bk.of_below (Nat.le_of_lt HM4.out.1.mm.alt) bl)) (HM4.out.2.2.below bl)))
  clear bl hw5 hvb HM4 HAE HBE HXE
  have hob := HM5.out.1.mem_b (List.mem_of_getElem? HP1.out) rfl
  have d5 : w5.cell? ⟨o, 5, none⟩ = some (.slice none 0 0) := hob.at_ 5
  have d13 : w5.cell? ⟨o, 13, none⟩ = some (.int .i64 kd) := hob.at_ 13
  have e1 : (kd == 1) = false := by rcases HKD.out with h9 | h9 <;> rw [h9] <;> rfl
  have e0 : (kd == 0) = false := by rcases HKD.out with h9 | h9 <;> rw [h9] <;> rfl
  have f1 : (kd = 1) = False := by rcases HKD.out with h9 | h9 <;> rw [h9] <;> simp
  have f0 : (kd = 0) = False := by rcases HKD.out with h9 | h9 <;> rw [h9] <;> simp
  have c0 : w5.cell? ⟨vb, 0, none⟩ = some (.int .i64 v.1) := bx.at_ 0
  have c1 : w5.cell? ⟨vb, 1, none⟩ = some (.int .i64 v.2.1) := bx.at_ 1
  have c2 : w5.cell? ⟨vb, 2, none⟩ = some (.string v.2.2) := bx.at_ 2
  have HR5 := Veil.mk (HRS.out w5 zV true HM5.out.1)
  clear hob bx HRS
  go_wp2_with (go_at_call 366; ((with_reducible refine HR5.out.mono ?_); rintro e w6 ⟨rfl, ob, pv, F, hm6, hb6⟩; have HM6 := Veil.mk (And.intro hm6 (And.intro (HM5.out.2.1.trans hb6) (hb6.boxE HM5.out.2.2 (by decide)))); clear hm6 hb6; have z0 : w6.cell? ⟨rb, 0, none⟩ = some (.int .i64 0) := HM6.out.2.2.at_ 0; have z1 : w6.cell? ⟨rb, 1, none⟩ = some (.int .i64 0) := HM6.out.2.2.at_ 1; have z2 : w6.cell? ⟨rb, 2, none⟩ = some (.string ⟨#[]⟩) := HM6.out.2.2.at_ 2; have q0 := HM6.out.2.2.free 0; have q1 := HM6.out.2.2.free 1; have q2 := HM6.out.2.2.free 2))
  have hr3 := ((HM6.out.2.2.put 0 (.int .i64 9)).put 1 (.int .i64 r)).put 2 (.string ⟨#[]⟩)
  have y0 := hr3.at_ 0
  have y1 := hr3.at_ 1
  have y2 := hr3.at_ 2
  have hp3 := ((HM6.out.1.putv HM6.out.2.2.lab 0 (.int .i64 9)).putv (HM6.out.2.2.put 0 _).lab 1 (.int .i64 r)).putv ((HM6.out.2.2.put 0 _).put 1 _).lab 2 (.string ⟨#[]⟩)
  have hk3 := ((HM6.out.2.1.setv HLO.out.2 HAA.out 0 (.int .i64 9)).setv HLO.out.2 HAA.out 1 (.int .i64 r)).setv HLO.out.2 HAA.out 2 (.string ⟨#[]⟩)
  exact bodyPost_ret (v := .tuple #[valV (9, r, ⟨#[]⟩), .int .i64 0]) (by simp [results, Tryz.results352, go_sem, y0, y1, y2]) rfl ⟨rfl, ob, pv, F, hp3, hk3⟩
end
section
variable {W : World} {h A m : Nat} {f : MF}
set_option maxHeartbeats 8000000 in
set_option maxRecDepth 100000 in
theorem do_next (hA : A <= W.heap.size) (T : List TO -> Prop) (fo : Nat) (this tgt x : Vt) (en : Int) (args : Value)
  (HN : Veil (∀ w', Below W.heap.size W w' -> Calls Tryz.prog 352 #[.pointer (some ⟨m, 0, none⟩), valV this] w' fun e w9 => e = .returned (.tuple #[valV x, .int .i64 en]) /\ ∃ ts1, T ts1 /\ MP w9 h A m f ts1 /\ Bk A w' w9)) :
  Calls Tryz.prog 348 #[.pointer (some ⟨m, 0, none⟩), .int .i64 164, callV fo this args tgt] W fun e w' => e = .returned (.tuple #[valV x, .int .i64 en]) /\ ∃ ts1, T ts1 /\ MP w' h A m f ts1 /\ Bk A W w' := by
 obtain ⟨cb, hcb⟩ : ∃ cb, W.heap.size = cb := ⟨_, rfl⟩
 obtain ⟨rb, hrb⟩ : ∃ rb, cb + 1 = rb := ⟨_, rfl⟩
 obtain ⟨W0, hW0⟩ : ∃ W0, ((W.alloc (.cells #[.pointer (some ⟨fo, 0, none⟩), .int .i64 this.1, .int .i64 this.2.1, .string this.2.2, args, .int .i64 tgt.1, .int .i64 tgt.2.1, .string tgt.2.2] CTy)).alloc (.cells #[.int .i64 0, .int .i64 0, .string ⟨#[]⟩] VTy)) = W0 := ⟨_, rfl⟩
 have bb : Below W.heap.size W W0 := by rw [<- hW0]; exact (((Below.refl _ _).alloc (Nat.le_refl _) _).alloc (by simp only [World.size_alloc]; omega) _)
 have xcb : Box W0 cb CTy #[.pointer (some ⟨fo, 0, none⟩), .int .i64 this.1, .int .i64 this.2.1, .string this.2.2, args, .int .i64 tgt.1, .int .i64 tgt.2.1, .string tgt.2.2] := by have h9 := ((Box.new W CTy #[.pointer (some ⟨fo, 0, none⟩), .int .i64 this.1, .int .i64 this.2.1, .string this.2.2, args, .int .i64 tgt.1, .int .i64 tgt.2.1, .string tgt.2.2]).more (.cells #[.int .i64 0, .int .i64 0, .string ⟨#[]⟩] VTy)); rw [hW0, hcb] at h9; exact h9
 have xrb : Box W0 rb VTy #[.int .i64 0, .int .i64 0, .string ⟨#[]⟩] := by have h9 := Box.new (W.alloc (.cells #[.pointer (some ⟨fo, 0, none⟩), .int .i64 this.1, .int .i64 this.2.1, .string this.2.2, args, .int .i64 tgt.1, .int .i64 tgt.2.1, .string tgt.2.2] CTy)) VTy #[.int .i64 0, .int .i64 0, .string ⟨#[]⟩]; rw [hW0, show (W.alloc (.cells #[.pointer (some ⟨fo, 0, none⟩), .int .i64 this.1, .int .i64 this.2.1, .string this.2.2, args, .int .i64 tgt.1, .int .i64 tgt.2.1, .string tgt.2.2] CTy)).heap.size = rb from by simp only [World.size_alloc]; omega] at h9; exact h9
 have HW0 := Veil.mk (And.intro hW0 (And.intro hcb (hrb)))
 have HBB := Veil.mk (And.intro bb (And.intro xcb (xrb)))
 have HLO : Veil (W.heap.size <= cb /\ W.heap.size <= rb) := ⟨by omega⟩
 clear hW0 bb hcb xcb hrb xrb
 have HN0 := Veil.mk (HN.out W0 HBB.out.1)
 have HAA := Veil.mk hA
 have HB0 := Veil.mk (Bk.of_below hA HBB.out.1)
 have c1 : W0.cell? ⟨cb, 1, none⟩ = some (.int .i64 this.1) := HBB.out.2.1.at_ 1
 have c2 : W0.cell? ⟨cb, 2, none⟩ = some (.int .i64 this.2.1) := HBB.out.2.1.at_ 2
 have c3 : W0.cell? ⟨cb, 3, none⟩ = some (.string this.2.2) := HBB.out.2.1.at_ 3
 clear HN hA
 go_enter Tryz.func348, Tryz.ntmps348
 go_upto_region 1 with (fail)
 rw [HW0.out.1, HW0.out.2.1, HW0.out.2.2]
 go_wp2_with (go_at_call 352; ((with_reducible refine HN0.out.mono ?_); rintro e w6 ⟨rfl, ts1, ht6, hm6, hb6⟩; have HM6 := Veil.mk (And.intro hm6 (And.intro (HB0.out.trans hb6) (And.intro (hb6.boxE HBB.out.2.2 (by decide)) ht6))); clear hm6 hb6 ht6; have z0 : w6.cell? ⟨rb, 0, none⟩ = some (.int .i64 0) := HM6.out.2.2.1.at_ 0; have z1 : w6.cell? ⟨rb, 1, none⟩ = some (.int .i64 0) := HM6.out.2.2.1.at_ 1; have z2 : w6.cell? ⟨rb, 2, none⟩ = some (.string ⟨#[]⟩) := HM6.out.2.2.1.at_ 2; have q0 := HM6.out.2.2.1.free 0; have q1 := HM6.out.2.2.1.free 1; have q2 := HM6.out.2.2.1.free 2))
 have hr3 := ((HM6.out.2.2.1.put 0 (.int .i64 x.1)).put 1 (.int .i64 x.2.1)).put 2 (.string x.2.2)
 have y0 := hr3.at_ 0
 have y1 := hr3.at_ 1
 have y2 := hr3.at_ 2
 have hp3 := ((HM6.out.1.putv HM6.out.2.2.1.lab 0 (.int .i64 x.1)).putv (HM6.out.2.2.1.put 0 _).lab 1 (.int .i64 x.2.1)).putv ((HM6.out.2.2.1.put 0 _).put 1 _).lab 2 (.string x.2.2)
 have hk3 := ((HM6.out.2.1.setv HLO.out.2 HAA.out 0 (.int .i64 x.1)).setv HLO.out.2 HAA.out 1 (.int .i64 x.2.1)).setv HLO.out.2 HAA.out 2 (.string x.2.2)
 exact bodyPost_ret (v := (.tuple #[valV x, .int .i64 en])) (by simp [results, Tryz.results348, go_sem, y0, y1, y2]) rfl ⟨rfl, ts1, HM6.out.2.2.2, hp3, hk3⟩
end
structure LawW (ts : List TO) (iw o : Nat) (kd : Int) (sl : Value) (at_ : Int) : Prop where
 wk : ts[iw]? = some (TO.wkr o kd sl at_)
 ge : 37 <= iw
 p0 : ∃ t, ts[0]? = some t /\ PlT t 0 []
 p11 : ∃ t, ts[11]? = some t /\ PlT t 0 e11W
 fn : ∃ t, ts[36]? = some t /\ t.cl = 2 /\ t.fn = (.iface 167 (.agg #[.bool false])) /\ t.kd.k = 164
theorem LawW.more {ts : List TO} {iw o : Nat} {kd at_ : Int} {sl : Value} (L : LawW ts iw o kd sl at_) (t : TO) : LawW (ts ++ [t]) iw o kd sl at_ := by
 have key : ∀ (k : Nat) u, ts[k]? = some u -> (ts ++ [t])[k]? = some u := fun k u hu => by
  rw [List.getElem?_append_left (List.getElem?_eq_some_iff.1 hu).1]
  exact hu
 obtain ⟨t0, a1, a2⟩ := L.p0
 obtain ⟨t1, h1, h2⟩ := L.p11
 obtain ⟨t3, h3, h4⟩ := L.fn
 exact ⟨key _ _ L.wk, L.ge, ⟨t0, key _ _ a1, a2⟩, ⟨t1, key _ _ h1, h2⟩, ⟨t3, key _ _ h3, h4⟩⟩
theorem LawW.set {ts : List TO} {iw o : Nat} {kd at_ at2 : Int} {sl sl2 : Value} (L : LawW ts iw o kd sl at_) : LawW (ts.set iw (TO.wkr o kd sl2 at2)) iw o kd sl2 at2 := by
 have hge := L.ge
 obtain ⟨t0, a1, a2⟩ := L.p0
 obtain ⟨t1, h1, h2⟩ := L.p11
 obtain ⟨t3, h3, h4⟩ := L.fn
 have hlt := (List.getElem?_eq_some_iff.1 L.wk).1
 have h36 : iw ≠ 36 := by omega
 have h11 : iw ≠ 11 := by omega
 have h00 : iw ≠ 0 := by omega
 exact ⟨List.getElem?_set_self hlt, hge, ⟨t0, by rw [List.getElem?_set_ne h00]; exact a1, a2⟩, ⟨t1, by rw [List.getElem?_set_ne h11]; exact h1, h2⟩, ⟨t3, by rw [List.getElem?_set_ne h36]; exact h3, h4⟩⟩
abbrev mfG (G : List (Nat × TypeId × Array Value)) (st : Int) (na ca : Value) : MF := { mfW with st := st, na := na, ca := ca, gh := G }
theorem MP.ghost {W : World} {h A m : Nat} {f : MF} {ts : List TO} (H : MP W h A m f ts) (G : List (Nat × TypeId × Array Value)) (hG : ∀ q ∈ G, GhAt W h A m ts q) : MP W h A m { f with gh := G } ts := ⟨⟨H.mm.hp, H.mm.mb, H.mm.ob, H.mm.am, H.mm.al, H.mm.nd⟩, H.pr, H.sep, H.dis, hG⟩
theorem MP.fresh {W W' : World} {h A m : Nat} {f : MF} {ts : List TO} (H : MP W h A m f ts) (hb : Below W.heap.size W W') {k : Nat} {T : TypeId} {cs : Array Value} (hx : Box W' k T cs) (hk : W.heap.size <= k) (hT : T ∉ kvL) : GhAt W' h A m ts (k, T, cs) := by
 have hA := H.mm.alt
 obtain ⟨cv, fv, rv, hp⟩ := H.mm.hp
 have hh := hp.hb.lt
 have hm := H.mm.mb.lt
 refine ⟨hx, hT, fun h9 => ?_, by show k ≠ h; omega, by show k ≠ m; omega, fun t ht => ⟨fun h9 => ?_, ?_⟩⟩
 ·have h8 := FO.on hA hb k h9
  have := (AFoot.lt hp.ar ((FO.of hp.ar k).1 h8)).2
  omega
 ·have := (H.lt ht h9).2
  have h7 : k < W.heap.size := this
  omega
 ·have := H.mem_lt ht
  show k ≠ t.b
  omega
structure LW (w : World) (G : List (Nat × TypeId × Array Value)) (h A m : Nat) (ts : List TO) (g : Nat) (cs : Array Value) (st : Int) (E : Nat -> Prop) (w' : World) : Prop where
 x : ∃ na ca, MP w' h A m (mfG G st na ca) ts /\ Rest w' A (mfG G st na ca) /\ (∀ k, VCf (mfG G st na ca) k -> ¬ E k /\ k ≠ g) /\ Box w' g VTy cs /\ ¬ E g
 bel : Below w.heap.size w w'
 lo : w.heap.size <= A
section
variable {w W W' : World} {G : List (Nat × TypeId × Array Value)} {h A m g : Nat} {ts : List TO} {cs : Array Value} {E : Nat -> Prop} {st : Int}
theorem LW.on (H : LW w G h A m ts g cs st E W) (hb : Below W.heap.size W W') : LW w G h A m ts g cs st E W' := by
 obtain ⟨na, ca, h1, h2, h3, h4, h5⟩ := H.x
 exact ⟨⟨na, ca, h1.on hb, h2.keep (fun k hk => hb.block k (h2.lt hk).2), h3, h4.below hb, h5⟩, H.bel.trans (hb.mono H.bel.size), H.lo⟩
theorem LW.excl (H : LW w G h A m ts g cs st E W) {E' : Nat -> Prop} (hE : ∀ k, E' k -> E k \/ W.heap.size <= k) : LW w G h A m ts g cs st E' W := by
 obtain ⟨na, ca, h1, h2, h3, h4, h5⟩ := H.x
 refine ⟨⟨na, ca, h1, h2, fun k hk => ⟨fun h9 => ?_, (h3 k hk).2⟩, h4, fun h9 => ?_⟩, H.bel, H.lo⟩
 ·rcases hE k h9 with h8 | h8
  ·exact (h3 k hk).1 h8
  ·have := (h2.lt hk).2
   omega
 ·rcases hE g h9 with h8 | h8
  ·exact h5 h8
  ·have := h4.lt
   omega
theorem LW.put (H : LW w G h A m ts g cs st E W) {b : Nat} (hl : Lab W b VTy) (hg : E b) (hn : w.heap.size <= b) (i : Nat) (u : Value) : LW w G h A m ts g cs st E (W.setCell ⟨b, i, none⟩ u) := by
 obtain ⟨na, ca, h1, h2, h3, h4, h5⟩ := H.x
 have ht : Touch (fun k => k = b) W (W.setCell ⟨b, i, none⟩ u) := Touch.put (S := fun k => k = b) rfl _ _
 exact ⟨⟨na, ca, h1.putv hl i u, h2.keep (fun k hk => ht.block k (h2.lt hk).2 (fun e => (h3 k hk).1 (by rw [e]; exact hg))), h3, h4.touch ht (fun e => h5 (by rw [e]; exact hg)), h5⟩, H.bel.setCell (p := ⟨b, i, none⟩) hn u, H.lo⟩
set_option maxHeartbeats 2000000 in
theorem LW.call {iw o : Nat} {kd at_ : Int} {sl : Value} (H : LW w G h A m ts g cs st E W) (L : LawW ts iw o kd sl at_) (hE : ∀ k, E k -> k < W.heap.size) (hs0 : 0 <= st) (hs1 : st < 4194304) (hl : ts.length < 99999) (x : Vt) (en : Int) (T : List TO -> Prop)
  (HD : ∀ W1 f1 fo, MP W1 h A m f1 ts -> f1 0 = 1 -> Box W1 g VTy cs -> Calls Tryz.prog 348 #[.pointer (some ⟨m, 0, none⟩), .int .i64 164, callV fo (9, (iw : Int) + 1, ⟨#[]⟩) (.slice none 0 0) (0, 0, ⟨#[]⟩)] W1 fun e w' => e = .returned (.tuple #[valV x, .int .i64 en]) /\ ∃ ts1, T ts1 /\ MP w' h A m f1 ts1 /\ Bk A W1 w') :
  Calls Tryz.prog 28 #[.pointer (some ⟨m, 0, none⟩), valV (9, 37, ⟨#[]⟩), valV (9, (iw : Int) + 1, ⟨#[]⟩), .slice none 0 0] W fun e w' => e = .returned (.tuple #[valV x, .int .i64 en]) /\ (∃ ts1, T ts1 /\ LW w G h A m ts1 g cs (st + 1) E w') /\ (∀ b t c, t ∈ kvL -> E b -> Box W b t c -> Box w' b t c) /\ W.heap.size <= w'.heap.size := by
 obtain ⟨na, ca, h1, h2, h3, h4, h5⟩ := H.x
 obtain ⟨t, ht, c1, c2, c3⟩ := L.fn
 have hR : RStay A (fun D ts2 st2 w9 => T ts2 /\ st2 = st + 1 /\ D g /\ Box w9 g VTy cs) := fun D ts2 st2 w1 w2 V' hq hbv hn => ⟨hq.1, hq.2.1, hq.2.2.1, hbv.box hq.2.2.2 (by decide) (hn g hq.2.2.1)⟩
 have key := h1.call h2 rfl hs0 hs1 (by show (0 : Int) <= 0; decide) (by show (0 : Int) < 20; decide) (by omega) ht c1 false c2 164 c3 (9, (iw : Int) + 1, ⟨#[]⟩) x en (.slice none 0 0) none 0 0 rfl (by decide) (fun k => k = g) (fun k hk => by subst hk; exact ⟨h4.lt, fun h9 => (h3 _ h9).2 rfl⟩) _ hR ⟨fun W1 f1 g1 g2 g3 g4 => by
  obtain ⟨na1, ca1, hf1⟩ := g2
  have hbx : Box W1 g VTy cs := g3.box h4 (by decide) (fun h9 => (h3 _ h9).2 rfl)
  refine (HD W1 f1 t.b g1 (by rw [hf1]; rfl) hbx).mono ?_
  rintro e w9 ⟨he, ts1, q1, q2, q3⟩
  have hb9 := q3.boxE hbx (by decide)
  refine ⟨he, ts1, f1.st, fun k => k = g, q2, q3.bv _, ⟨q1, by rw [hf1], rfl, hb9⟩, fun k hk => by subst hk; exact ⟨hb9.lt, fun h => h, .inl rfl⟩⟩⟩
 refine key.mono ?_
 rintro e w9 ⟨he, hq⟩
 obtain ⟨ts2, st2, D, f2, q1, ⟨na2, ca2, q2⟩, q3, q4, q5, ⟨r1, r2, r3, r4⟩, q7⟩ := hq.x
 subst r2 q2
 refine ⟨he, ⟨ts2, r1, ⟨⟨na2, ca2, q1, q3, fun k hk => ⟨fun h9 => ?_, fun h9 => ?_⟩, r4, h5⟩, H.bel.trans (q5.bel.mono H.lo), H.lo⟩⟩, fun b t c hT hg hbx => q5.box hbx hT (fun h9 => h9.elim (fun h8 => h5 (by rw [<- h8]; exact hg)) (fun h8 => (h3 b h8).1 hg)), q5.bel.size⟩
 ·rcases (q4 k hk).1 with h8 | h8
  ·exact (h3 k h8).1 h9
  ·have := hE k h9
   omega
 ·rw [h9] at hk
  exact (q7 g r3).2.1 hk
end
abbrev nxB : ByteArray := ⟨#[110, 101, 120, 116]⟩
abbrev kNx : Vt := (7, 0, ⟨#[0, 110, 0, 101, 0, 120, 0, 116]⟩)
theorem val_nx (w : World) : Calls Tryz.prog 44 #[.string nxB] w fun e w' => e = .returned (valV kNx) /\ Below w.heap.size w w' :=
 W.val_const _ [0, 110, 0, 101, 0, 120, 0, 116] (by decide) (show Hid _ from (by decide +kernel : W.ofB ⟨#[110, 101, 120, 116]⟩ = [0, 110, 0, 101, 0, 120, 0, 116])) w
theorem look_e11 : lookO e11W kNx = ((9, 37, ⟨#[]⟩), 5, true) := by kernel_rfl
section
variable {w W W' : World} {G : List (Nat × TypeId × Array Value)} {h A m g : Nat} {ts : List TO} {cs : Array Value} {E : Nat -> Prop} {st : Int}
theorem LW.member {iw o : Nat} {kd at_ : Int} {sl : Value} (H : LW w G h A m ts g cs st E W) (L : LawW ts iw o kd sl at_) (hl : ts.length < 99999) :
  Calls Tryz.prog 21 #[.pointer (some ⟨m, 0, none⟩), valV (9, (iw : Int) + 1, ⟨#[]⟩), .string nxB] W fun e w' => e = .returned (.tuple #[valV (9, 37, ⟨#[]⟩), .int .i64 0]) /\ Below W.heap.size W w' := by
 obtain ⟨na, ca, h1, -⟩ := H.x
 obtain ⟨t2, ht2, p1, p2, p3, p4, p5, p6⟩ := L.p11
 refine member_w W m (9, (iw : Int) + 1, ⟨#[]⟩) kNx (9, 37, ⟨#[]⟩) nxB ⟨fun W' => val_nx W'⟩ ⟨fun W' hb => ?_⟩
 refine getkey_w W' m _ _ _ rfl ⟨fun W2 hb2 => ?_⟩
 have H2 := h1.on (hb.trans (hb2.mono hb.size))
 refine getfrom_w W2 m h _ 5 true _ _ _ (by decide) (H2.mm.mb.at_ 0) H2.mm.mb.lt ⟨fun W4 hb4 => ?_⟩
 have H4 := H2.on hb4
 have ho1 := H4.ownT L.wk rfl kNx (.inl rfl) rfl (by decide)
 have ho2 := H4.ownT ht2 (by rw [p1]; rfl) kNx (.inl (by rw [p1]; rfl)) rfl (by decide)
 rw [p6, look_e11] at ho2
 exact H4.find2 (by omega) iw 11 _ t2 L.wk ht2 rfl (by rw [p1]; rfl) rfl p2 _ _ _ ho1 ho2
set_option maxRecDepth 100000 in
set_option maxHeartbeats 16000000 in
theorem LW.ask {iw o : Nat} {kd at_ : Int} {sl : Value} (H : LW w G h A m ts g cs st E W) (L : LawW ts iw o kd sl at_) (hE : ∀ k, E k -> k < W.heap.size) (hs0 : 0 <= st) (hs1 : st < 4194304) (hl : ts.length < 99999) (x : Vt) (en : Int) (T : List TO -> Prop)
  (HD : ∀ W1 f1 fo, MP W1 h A m f1 ts -> f1 0 = 1 -> Box W1 g VTy cs -> Calls Tryz.prog 348 #[.pointer (some ⟨m, 0, none⟩), .int .i64 164, callV fo (9, (iw : Int) + 1, ⟨#[]⟩) (.slice none 0 0) (0, 0, ⟨#[]⟩)] W1 fun e w' => e = .returned (.tuple #[valV x, .int .i64 en]) /\ ∃ ts1, T ts1 /\ MP w' h A m f1 ts1 /\ Bk A W1 w') :
  Calls Tryz.prog 20 #[.pointer (some ⟨m, 0, none⟩), valV (9, (iw : Int) + 1, ⟨#[]⟩), .string ⟨#[110, 101, 120, 116]⟩, .slice none 0 0] W fun e w' => e = .returned (.tuple #[valV x, .int .i64 en]) /\ (∃ ts1, T ts1 /\ LW w G h A m ts1 g cs (st + 1) E w') /\ (∀ b t c, t ∈ kvL -> E b -> Box W b t c -> Box w' b t c) /\ W.heap.size <= w'.heap.size := by
 obtain ⟨fv, hfv⟩ : ∃ fv : Vt, ((9, (iw : Int) + 1, ⟨#[]⟩) : Vt) = fv := ⟨_, rfl⟩
 obtain ⟨fn, hfn⟩ : ∃ fn : Vt, ((9, 37, ⟨#[]⟩) : Vt) = fn := ⟨_, rfl⟩
 obtain ⟨vb, hvb⟩ : ∃ vb, W.heap.size = vb := ⟨_, rfl⟩
 obtain ⟨rb, hrb⟩ : ∃ rb, vb + 1 = rb := ⟨_, rfl⟩
 obtain ⟨W0, hW0⟩ : ∃ W0, ((W.alloc (.cells #[.int .i64 fv.1, .int .i64 fv.2.1, .string fv.2.2] 28)).alloc (.cells #[.int .i64 0, .int .i64 0, .string ⟨#[]⟩] 28)) = W0 := ⟨_, rfl⟩
 have bb : Below W.heap.size W W0 := by rw [<- hW0]; exact (((Below.refl _ _).alloc (Nat.le_refl _) _).alloc (by simp only [World.size_alloc]; omega) _)
 have xvb : Box W0 vb 28 #[.int .i64 fv.1, .int .i64 fv.2.1, .string fv.2.2] := by have h9 := ((Box.new W 28 #[.int .i64 fv.1, .int .i64 fv.2.1, .string fv.2.2]).more (.cells #[.int .i64 0, .int .i64 0, .string ⟨#[]⟩] 28)); rw [hW0, hvb] at h9; exact h9
 have xrb : Box W0 rb 28 #[.int .i64 0, .int .i64 0, .string ⟨#[]⟩] := by have h9 := Box.new (W.alloc (.cells #[.int .i64 fv.1, .int .i64 fv.2.1, .string fv.2.2] 28)) 28 #[.int .i64 0, .int .i64 0, .string ⟨#[]⟩]; rw [hW0, show (W.alloc (.cells #[.int .i64 fv.1, .int .i64 fv.2.1, .string fv.2.2] 28)).heap.size = rb from by simp only [World.size_alloc]; omega] at h9; exact h9
 have HW0 := Veil.mk (And.intro hW0 (And.intro hvb (hrb)))
 have HBB := Veil.mk (And.intro bb (And.intro xvb (xrb)))
 have HLO : Veil (W.heap.size <= vb /\ W.heap.size <= rb) := ⟨by omega⟩
 clear hW0 bb hvb xvb hrb xrb
 have HS0 : Veil (LW w G h A m ts g cs st (fun k => E k \/ k = vb \/ k = rb) W0) := ⟨(H.excl (fun k hk => hk.elim (fun h => .inl h) (fun h => .inr (by rcases h with rfl | rfl; exact HLO.out.1; exact HLO.out.2)))).on HBB.out.1⟩
 have HMB : Veil (∀ w9, Below W0.heap.size W0 w9 -> Calls Tryz.prog 21 #[.pointer (some ⟨m, 0, none⟩), valV fv, .string ⟨#[110, 101, 120, 116]⟩] w9 fun e w' => e = .returned (.tuple #[valV fn, .int .i64 0]) /\ Below w9.heap.size w9 w') := ⟨fun w9 hb => by rw [<- hfv, <- hfn]; exact (HS0.out.on hb).member L hl⟩
 have HCL : Veil (∀ w9, Below W0.heap.size W0 w9 -> Calls Tryz.prog 28 #[.pointer (some ⟨m, 0, none⟩), valV fn, valV fv, .slice none 0 0] w9 fun e w' => e = .returned (.tuple #[valV x, .int .i64 en]) /\ (∃ ts1, T ts1 /\ LW w G h A m ts1 g cs (st + 1) (fun k => E k \/ k = vb \/ k = rb) w') /\ (∀ b t c, t ∈ kvL -> (E b \/ b = vb \/ b = rb) -> Box w9 b t c -> Box w' b t c) /\ w9.heap.size <= w'.heap.size) := ⟨fun w9 hb => by
  rw [<- hfv, <- hfn]
  exact (HS0.out.on hb).call L (fun k hk => by
   have h1 := HBB.out.1.size
   have h2 := hb.size
   have h3 := HBB.out.2.1.lt
   have h4 := HBB.out.2.2.lt
   rcases hk with h9 | h9 | h9
   ·have := hE k h9; omega
   ·omega
   ·omega) hs0 hs1 hl x en T HD⟩
 have HEE := Veil.mk (And.intro hE (show w.heap.size <= W.heap.size from H.bel.size))
 have c0 : W0.cell? ⟨vb, 0, none⟩ = some (.int .i64 fv.1) := HBB.out.2.1.at_ 0
 have c1 : W0.cell? ⟨vb, 1, none⟩ = some (.int .i64 fv.2.1) := HBB.out.2.1.at_ 1
 have c2 : W0.cell? ⟨vb, 2, none⟩ = some (.string fv.2.2) := HBB.out.2.1.at_ 2
 rw [hfv]
 clear hfv hfn H L hE hs0 hs1 hl HD HS0
 go_enter Tryz.func20, Tryz.ntmps20
 go_upto_region 1 with (fail)
 rw [HW0.out.1, HW0.out.2.1, HW0.out.2.2]
 have HM0 := Veil.mk (HMB.out W0 (Below.refl _ _))
 go_upto_region 2 with (go_at_call 21; ((with_reducible refine HM0.out.mono ?_); rintro e w1 ⟨rfl, hb1⟩; have HB1 := Veil.mk hb1; clear hb1))
 obtain ⟨fb, hfb⟩ : ∃ fb, w1.heap.size = fb := ⟨_, rfl⟩
 obtain ⟨w2, hw2⟩ : ∃ w2, w1.alloc (.cells #[.int .i64 fn.1, .int .i64 fn.2.1, .string fn.2.2] 28) = w2 := ⟨_, rfl⟩
 have bx := Box.new w1 28 #[.int .i64 fn.1, .int .i64 fn.2.1, .string fn.2.2]
 have bl : Below w1.heap.size w1 (w1.alloc (.cells #[.int .i64 fn.1, .int .i64 fn.2.1, .string fn.2.2] 28)) := (Below.refl _ _).alloc (Nat.le_refl _) _
 rw [hw2] at bx bl ⊢
 rw [hfb] at bx ⊢
 have HB2 := Veil.mk (blw2 HB1.out bl)
 have HX2 := Veil.mk bx
 clear c0 c1 c2 bx bl hw2 hfb HM0 HB1 HMB
 have hv2 := HBB.out.2.1.below HB2.out
 have c0 : w2.cell? ⟨vb, 0, none⟩ = some (.int .i64 fv.1) := hv2.at_ 0
 have c1 : w2.cell? ⟨vb, 1, none⟩ = some (.int .i64 fv.2.1) := hv2.at_ 1
 have c2 : w2.cell? ⟨vb, 2, none⟩ = some (.string fv.2.2) := hv2.at_ 2
 have d0 : w2.cell? ⟨fb, 0, none⟩ = some (.int .i64 fn.1) := HX2.out.at_ 0
 have d1 : w2.cell? ⟨fb, 1, none⟩ = some (.int .i64 fn.2.1) := HX2.out.at_ 1
 have d2 : w2.cell? ⟨fb, 2, none⟩ = some (.string fn.2.2) := HX2.out.at_ 2
 have HC2 := Veil.mk (HCL.out w2 HB2.out)
 clear hv2 HCL
 go_wp2_with (go_at_call 28; ((with_reducible refine HC2.out.mono ?_); rintro e w6 ⟨rfl, ⟨ts1, ht1, hls⟩, hbx, hsz⟩; have HR6 := Veil.mk (And.intro (hbx rb _ _ (by decide) (.inr (.inr rfl)) (HBB.out.2.2.below HB2.out)) (And.intro hls (And.intro hbx (And.intro hsz ht1)))); clear hls hbx hsz ht1; have z0 : w6.cell? ⟨rb, 0, none⟩ = some (.int .i64 0) := HR6.out.1.at_ 0; have z1 : w6.cell? ⟨rb, 1, none⟩ = some (.int .i64 0) := HR6.out.1.at_ 1; have z2 : w6.cell? ⟨rb, 2, none⟩ = some (.string ⟨#[]⟩) := HR6.out.1.at_ 2; have q0 := HR6.out.1.free 0; have q1 := HR6.out.1.free 1; have q2 := HR6.out.1.free 2))
 have hr3 := ((HR6.out.1.put 0 (.int .i64 x.1)).put 1 (.int .i64 x.2.1)).put 2 (.string x.2.2)
 have y0 := hr3.at_ 0
 have y1 := hr3.at_ 1
 have y2 := hr3.at_ 2
 have hwr : w.heap.size <= rb := Nat.le_trans HEE.out.2 HLO.out.2
 have hp3 := ((HR6.out.2.1.put HR6.out.1.lab (.inr (.inr rfl)) hwr 0 (.int .i64 x.1)).put (HR6.out.1.put 0 _).lab (.inr (.inr rfl)) hwr 1 (.int .i64 x.2.1)).put ((HR6.out.1.put 0 _).put 1 _).lab (.inr (.inr rfl)) hwr 2 (.string x.2.2)
 refine bodyPost_ret (v := (.tuple #[valV x, .int .i64 en])) (by simp [results, Tryz.results20, go_sem, y0, y1, y2]) rfl ⟨rfl, ⟨ts1, HR6.out.2.2.2.2, hp3.excl (fun k hk => .inl (.inl hk))⟩, fun b t c hT hg hx => ?_, ?_⟩
 ·have hne : b ≠ rb := fun e => by
   have h1 := HEE.out.1 b hg
   have h2 := HLO.out.2
   omega
  have h6 := HR6.out.2.2.1 b t c hT (.inl hg) ((hx.below HBB.out.1).below HB2.out)
  exact ((h6.touch (Touch.put (S := fun k => k = rb) rfl 0 (.int .i64 x.1)) hne).touch (Touch.put (S := fun k => k = rb) rfl 1 (.int .i64 x.2.1)) hne).touch (Touch.put (S := fun k => k = rb) rfl 2 (.string x.2.2)) hne
 ·simp only [World.size_setCell]
  have h1 := HBB.out.1.size
  have h2 := HB2.out.size
  have h3 := HR6.out.2.2.2.1
  omega
end
section
variable {h A m g iw o i n : Nat} {ts : List TO} {kd : Int} {s z : ByteArray} {cp : Int}
theorem nx_more (L : LawW ts iw o kd (.slice (some ⟨g, 0, none⟩) 1 1) (i : Int)) (hkd : kd = 2 \/ kd = 3) (hl : ts.length < 99999) (hs : s.size <= 16777216) (hi : i < s.size / 2) (hn : n <= 2)
  (HPT : Veil (∀ w', Calls Tryz.prog 376 #[.string s, .int .i64 (i : Int)] w' fun e w9 => e = .returned (.tuple #[.int .i32 cp, .int .i64 (n : Int)]) /\ Below w'.heap.size w' w9))
  (HSB : Veil (∀ w', Calls Tryz.prog 139 #[.string s, .int .i64 (i : Int), .int .i64 ((i : Int) + (n : Int))] w' fun e w9 => e = .returned (.string z) /\ Below w'.heap.size w' w9))
  (W1 : World) (f1 : MF) (fo : Nat) (H : MP W1 h A m f1 ts) (hf : f1 0 = 1) (hg : Box W1 g VTy #[.int .i64 7, .int .i64 0, .string s]) :
  Calls Tryz.prog 348 #[.pointer (some ⟨m, 0, none⟩), .int .i64 164, callV fo (9, (iw : Int) + 1, ⟨#[]⟩) (.slice none 0 0) (0, 0, ⟨#[]⟩)] W1 fun e w' => e = .returned (.tuple #[valV (9, (ts.length : Int) + 1, ⟨#[]⟩), .int .i64 0]) /\ ∃ ts1, (∃ ob pv F, ts1 = ts.set iw (TO.wkr o kd (.slice (some ⟨g, 0, none⟩) 1 1) ((i : Int) + (n : Int))) ++ [(⟨ob, 0, 1, pv, .slice none 0 0, .nilIface, kd0, F, [(kVal, (7, 0, z), 7), (kDone, tvV false, 7)]⟩ : TO)]) /\ MP w' h A m f1 ts1 /\ Bk A W1 w' := by
 refine do_next (Nat.le_of_lt H.mm.alt) (fun ts1 => ∃ ob pv F, ts1 = ts.set iw (TO.wkr o kd (.slice (some ⟨g, 0, none⟩) 1 1) ((i : Int) + (n : Int))) ++ [(⟨ob, 0, 1, pv, .slice none 0 0, .nilIface, kd0, F, [(kVal, (7, 0, z), 7), (kDone, tvV false, 7)]⟩ : TO)]) fo (9, (iw : Int) + 1, ⟨#[]⟩) (0, 0, ⟨#[]⟩) _ 0 _ ⟨fun w' hb => ?_⟩
 have H1 := H.on hb
 have hlt := (List.getElem?_eq_some_iff.1 L.wk).1
 have key := H1.next_more (ts1 := ts.set iw (TO.wkr o kd (.slice (some ⟨g, 0, none⟩) 1 1) ((i : Int) + (n : Int)))) hf (3, (i : Int), ⟨#[]⟩) (7, 0, z) hkd L.wk (List.getElem?_set_self hlt) (by rw [List.length_set]; exact hl) ⟨fun w2 hb2 => (H1.on hb2).adv_str L.wk ((hg.below hb).below hb2) hs hi hn HPT HSB⟩
 rw [List.length_set] at key
 refine key.mono ?_
 rintro e w9 ⟨he, ob, pv, F, h1, h2⟩
 exact ⟨he, _, ⟨ob, pv, F, rfl⟩, h1, h2⟩
theorem nx_end (L : LawW ts iw o kd (.slice (some ⟨g, 0, none⟩) 1 1) (i : Int)) (hkd : kd = 2 \/ kd = 3) (hl : ts.length < 99999) (hs : s.size <= 16777216) (hi : s.size / 2 <= i) (hi9 : i <= 8388608)
  (W1 : World) (f1 : MF) (fo : Nat) (H : MP W1 h A m f1 ts) (hf : f1 0 = 1) (hg : Box W1 g VTy #[.int .i64 7, .int .i64 0, .string s]) :
  Calls Tryz.prog 348 #[.pointer (some ⟨m, 0, none⟩), .int .i64 164, callV fo (9, (iw : Int) + 1, ⟨#[]⟩) (.slice none 0 0) (0, 0, ⟨#[]⟩)] W1 fun e w' => e = .returned (.tuple #[valV (9, (ts.length : Int) + 1, ⟨#[]⟩), .int .i64 0]) /\ ∃ ts1, (∃ ob pv F, ts1 = ts.set iw (TO.wkr o kd (.slice none 0 0) (i : Int)) ++ [(⟨ob, 0, 1, pv, .slice none 0 0, .nilIface, kd0, F, [(kVal, zV, 7), (kDone, tvV true, 7)]⟩ : TO)]) /\ MP w' h A m f1 ts1 /\ Bk A W1 w' := by
 refine do_next (Nat.le_of_lt H.mm.alt) (fun ts1 => ∃ ob pv F, ts1 = ts.set iw (TO.wkr o kd (.slice none 0 0) (i : Int)) ++ [(⟨ob, 0, 1, pv, .slice none 0 0, .nilIface, kd0, F, [(kVal, zV, 7), (kDone, tvV true, 7)]⟩ : TO)]) fo (9, (iw : Int) + 1, ⟨#[]⟩) (0, 0, ⟨#[]⟩) _ 0 _ ⟨fun w' hb => ?_⟩
 have H1 := H.on hb
 have hlt := (List.getElem?_eq_some_iff.1 L.wk).1
 have key := H1.next_end (ts1 := ts.set iw (TO.wkr o kd (.slice none 0 0) (i : Int))) hf zV zV hkd L.wk (List.getElem?_set_self hlt) (by rw [List.length_set]; exact hl) ⟨fun w2 hb2 => (H1.on hb2).adv_end L.wk ((hg.below hb).below hb2) hs hi hi9⟩
 rw [List.length_set] at key
 refine key.mono ?_
 rintro e w9 ⟨he, ob, pv, F, h1, h2⟩
 exact ⟨he, _, ⟨ob, pv, F, rfl⟩, h1, h2⟩
theorem nx_done {at_ : Int} (L : LawW ts iw o kd (.slice none 0 0) at_) (hkd : kd = 2 \/ kd = 3) (hl : ts.length < 99999)
  (W1 : World) (f1 : MF) (fo : Nat) (H : MP W1 h A m f1 ts) (hf : f1 0 = 1) :
  Calls Tryz.prog 348 #[.pointer (some ⟨m, 0, none⟩), .int .i64 164, callV fo (9, (iw : Int) + 1, ⟨#[]⟩) (.slice none 0 0) (0, 0, ⟨#[]⟩)] W1 fun e w' => e = .returned (.tuple #[valV (9, (ts.length : Int) + 1, ⟨#[]⟩), .int .i64 0]) /\ ∃ ts1, (∃ ob pv F, ts1 = ts ++ [(⟨ob, 0, 1, pv, .slice none 0 0, .nilIface, kd0, F, [(kVal, zV, 7), (kDone, tvV true, 7)]⟩ : TO)]) /\ MP w' h A m f1 ts1 /\ Bk A W1 w' := by
 refine do_next (Nat.le_of_lt H.mm.alt) (fun ts1 => ∃ ob pv F, ts1 = ts ++ [(⟨ob, 0, 1, pv, .slice none 0 0, .nilIface, kd0, F, [(kVal, zV, 7), (kDone, tvV true, 7)]⟩ : TO)]) fo (9, (iw : Int) + 1, ⟨#[]⟩) (0, 0, ⟨#[]⟩) _ 0 _ ⟨fun w' hb => ?_⟩
 have H1 := H.on hb
 have key := H1.next_end (ts1 := ts) hf zV zV hkd L.wk L.wk hl ⟨fun w2 hb2 => (H1.on hb2).adv_done L.wk⟩
 refine key.mono ?_
 rintro e w9 ⟨he, ob, pv, F, h1, h2⟩
 exact ⟨he, _, ⟨ob, pv, F, rfl⟩, h1, h2⟩
end
theorem val_value (w : World) : Calls Tryz.prog 44 #[.string ⟨#[118, 97, 108, 117, 101]⟩] w fun e w' => e = .returned (valV kVal) /\ Below w.heap.size w w' :=
 W.val_const _ [0, 118, 0, 97, 0, 108, 0, 117, 0, 101] (by decide) (show Hid _ from (by decide +kernel : W.ofB ⟨#[118, 97, 108, 117, 101]⟩ = [0, 118, 0, 97, 0, 108, 0, 117, 0, 101])) w
theorem val_done (w : World) : Calls Tryz.prog 44 #[.string ⟨#[100, 111, 110, 101]⟩] w fun e w' => e = .returned (valV kDone) /\ Below w.heap.size w w' :=
 W.val_const _ [0, 100, 0, 111, 0, 110, 0, 101] (by decide) (show Hid _ from (by decide +kernel : W.ofB ⟨#[100, 111, 110, 101]⟩ = [0, 100, 0, 111, 0, 110, 0, 101])) w
theorem look_val (v : Vt) (d : Vt) : lookO [(kVal, v, 7), (kDone, d, 7)] kVal = (v, 7, true) := by
 unfold lookO
 rw [List.find?_cons_of_pos (by simp)]
theorem look_done (v : Vt) (d : Vt) : lookO [(kVal, v, 7), (kDone, d, 7)] kDone = (d, 7, true) := by
 unfold lookO
 rw [List.find?_cons_of_neg (by show ¬ (decide (kVal = kDone) = true); decide +kernel), List.find?_cons_of_pos (by simp)]
section
variable {W : World} {h A m : Nat} {f : MF} {ts : List TO}
theorem MP.part (H : MP W h A m f ts) (hl : ts.length < 100000) {ir : Nat} {t t0 : TO} (ht : ts[ir]? = some t) (hcl : t.cl = 0) (hpr : t.proto = 1) (h0 : ts[0]? = some t0) (hp0 : PlT t0 0 []) (nm : ByteArray) (k v : Vt) (hlk : lookO t.O k = (v, 7, true)) (hk6 : keyT k = k) (hks : k.2.2.size <= 1000)
  (HV : ∀ w, Calls Tryz.prog 44 #[.string nm] w fun e w' => e = .returned (valV k) /\ Below w.heap.size w w') :
  Calls Tryz.prog 21 #[.pointer (some ⟨m, 0, none⟩), valV (9, (ir : Int) + 1, ⟨#[]⟩), .string nm] W fun e w' => e = .returned (.tuple #[valV v, .int .i64 0]) /\ Below W.heap.size W w' := by
 obtain ⟨p1, p2, p3, p4, p5, p6⟩ := hp0
 refine member_w W m (9, (ir : Int) + 1, ⟨#[]⟩) k v nm ⟨fun W' => HV W'⟩ ⟨fun W' hb => ?_⟩
 refine getkey_w W' m _ _ _ rfl ⟨fun W2 hb2 => ?_⟩
 have H2 := H.on (hb.trans (hb2.mono hb.size))
 refine getfrom_w W2 m h _ 7 true _ _ _ (by decide) (H2.mm.mb.at_ 0) H2.mm.mb.lt ⟨fun W4 hb4 => ?_⟩
 have H4 := H2.on hb4
 have ho1 := H4.ownT ht (by rw [hcl]; rfl) k (.inl (by rw [hcl]; rfl)) hk6 hks
 have ho2 := H4.ownT h0 (by rw [p1]; rfl) k (.inl (by rw [p1]; rfl)) hk6 hks
 rw [hlk] at ho1
 exact H4.find2 (by omega) ir 0 t t0 ht h0 (by rw [hcl]; rfl) (by rw [p1]; rfl) (by rw [hpr]; rfl) p2 _ _ _ ho1 ho2
end
end Go.Proofs.YtahkohfppakaiaaGreatDoor
namespace Go.Proofs.YtahkohfppakaiaaGreatDoor.W
open Go Go.RowKit
attribute [local go_sem] Oper.semAt_some
theorem units_flat : ∀ (l : List Nat), (∀ u ∈ l, u < 65536) -> units (l.flatMap u2) = l
 | [], _ => rfl
 | c :: r, h => by
  have hc : c < 65536 := h c (List.mem_cons_self ..)
  have := units_flat r (fun u hu => h u (List.mem_cons_of_mem _ hu))
  rw [List.flatMap_cons]
  show units (UInt8.ofNat (c / 256) :: UInt8.ofNat c :: r.flatMap u2) = _
  simp only [units, this]
  congr 1
  simp; omega
theorem flat_length (l : List Nat) : (l.flatMap u2).length = 2 * l.length := by
 induction l with
 | nil => rfl
 | cons x r ih => rw [List.flatMap_cons, List.length_append, ih]; simp [u2]; omega
def subB (s : ByteArray) (i j : Int) : ByteArray :=
 let t := min (max j 0) ((s.size : Int) / 2)
 let f := min (max i 0) t
 s.extract (2 * f.toNat) (2 * t.toNat)
theorem sub_any (s : ByteArray) (hs : s.size <= 16777216) (i j : Int) (w : World) :
  Calls Tryz.prog 139 #[.string s, .int .i64 i, .int .i64 j] w fun e w' => e = .returned (.string (subB s i j)) /\ w = w' := by
 obtain ⟨t, ht⟩ : ∃ t : Nat, (t : Int) = min (max j 0) ((s.size : Int) / 2) := ⟨(min (max j 0) ((s.size : Int) / 2)).toNat, by omega⟩
 obtain ⟨f, hf⟩ : ∃ f : Nat, (f : Int) = min (max i 0) (t : Int) := ⟨(min (max i 0) (t : Int)).toNat, by omega⟩
 have hft : f <= t := by omega
 have hts : t <= s.size / 2 := by omega
 have HS : Hid (subB s i j = s.extract (2 * f) (2 * t)) := by
  show subB s i j = _
  unfold subB
  simp only [<- ht, <- hf, Int.toNat_natCast]
 have q1 : (2 * (f : Int)).toNat = 2 * f := by omega
 have q2 : (2 * (t : Int)).toNat = 2 * t := by omega
 have q3 : 0 <= 2 * (f : Int) := by omega
 have q4 : 2 * (f : Int) <= 2 * (t : Int) := by omega
 have q5 : 2 * (t : Int) <= s.size := by omega
 have g1 : (if (s.size : Int) / 2 < (if j < 0 then 0 else j) then (s.size : Int) / 2 else if j < 0 then 0 else j) = (t : Int) := by rw [ht]; split <;> split <;> omega
 have g2 : (if (t : Int) < (if i < 0 then 0 else i) then (t : Int) else if i < 0 then 0 else i) = (f : Int) := by rw [hf]; split <;> split <;> omega
 have HT9 := Veil.mk (And.intro ht hf)
 clear ht hf
 go_enter Tryz.func139, Tryz.ntmps139
 go_wp2_with (first | (go_at_call 80; ((with_reducible refine (len_any _ hs _).mono ?_); rintro e w' ⟨rfl, rfl⟩)))
 all_goals
  go_ret
  exact ⟨ret_sb (by rw [<- HT9.out.1, <- HT9.out.2, HS.out, q1, q2]), rfl⟩
theorem flat_drop (l : List Nat) (k : Nat) : (l.flatMap u2).drop (2 * k) = (l.drop k).flatMap u2 := by
 induction k generalizing l with
 | zero => simp
 | succ k ih =>
  cases l with
  | nil => simp
  | cons x r =>
   rw [List.flatMap_cons, List.drop_succ_cons, <- ih r]
   show ((UInt8.ofNat (x / 256) :: UInt8.ofNat x :: r.flatMap u2)).drop (2 * k + 2) = _
   simp
theorem flat_take (l : List Nat) (k : Nat) : (l.flatMap u2).take (2 * k) = (l.take k).flatMap u2 := by
 induction k generalizing l with
 | zero => simp
 | succ k ih =>
  cases l with
  | nil => simp
  | cons x r =>
   rw [List.flatMap_cons, List.take_succ_cons, List.flatMap_cons, <- ih r]
   show ((UInt8.ofNat (x / 256) :: UInt8.ofNat x :: r.flatMap u2)).take (2 * k + 2) = _
   simp [u2]
def strU (l : List Nat) : ByteArray := ⟨(l.flatMap u2).toArray⟩
theorem strU_size (l : List Nat) : (strU l).size = 2 * l.length := by
 show (l.flatMap u2).toArray.size = _
 simp only [List.size_toArray]; exact flat_length l
theorem strU_units (l : List Nat) (h : ∀ u ∈ l, u < 65536) : unitsS (strU l) = l := by
 show units (l.flatMap u2).toArray.toList = l
 simp only []; exact units_flat l h
theorem strU_sub (l : List Nat) (i j : Int) (f t : Nat) (ht : (t : Int) = min (max j 0) (l.length : Int)) (hf : (f : Int) = min (max i 0) (t : Int)) :
  subB (strU l) i j = strU ((l.drop f).take (t - f)) := by
 have hft : f <= t := by omega
 unfold subB
 have e1 : min (max j 0) (((strU l).size : Int) / 2) = (t : Int) := by rw [strU_size, ht]; congr 1; omega
 simp only [e1, <- hf, Int.toNat_natCast]
 apply ByteArray.ext
 apply Array.ext'
 rw [ByteArray.data_extract]
 simp only [strU, List.extract_toArray, List.extract_eq_take_drop]
 rw [show 2 * t - 2 * f = 2 * (t - f) by omega, flat_drop, flat_take]
theorem at_nat (s : ByteArray) (hs : s.size <= 16777216) (i : Nat) (w : World) :
  Calls Tryz.prog 119 #[.string s, .int .i64 (i : Int)] w fun e w' => e = .returned (.int .u16 (((unitsS s)[i]?.getD 0 : Nat) : Int)) /\ ∃ n, w' = w.drewN n := by
 by_cases hi : i < s.size / 2
 ·exact at_in s hs i hi w
 ·refine (at_out s hs (i : Int) (.inr (by omega)) w).mono fun e w' h => ⟨?_, 0, ?_⟩
  ·rw [h.1, List.getElem?_eq_none (by rw [unitsS_length]; omega)]
   rfl
  ·rw [<- h.2]; rfl
def isHi (u : Nat) : Bool := decide (55296 <= u) && decide (u <= 56319)
def isLo (u : Nat) : Bool := decide (56320 <= u) && decide (u <= 57343)
theorem high_any (u : Nat) (w : World) : Calls Tryz.prog 379 #[.int .i32 (u : Int)] w fun e w' => e = .returned (.bool (isHi u)) /\ w = w' := by
 by_cases h1 : (55296 : Int) <= (u : Int)
 ·have HX : Hid (isHi u = decide ((u : Int) <= 56319)) := Lib.hid (by
   have a : 55296 <= u := by omega
   rw [isHi, decide_eq_true a, Bool.true_and, decide_eq_decide]; omega)
  go_enter Tryz.func379, Tryz.ntmps379
  go_wp2
  go_ret
  exact ⟨ret_bool HX.out.symm, rfl⟩
 ·have HX : Hid (isHi u = false) := Lib.hid (by
   have a : ¬ 55296 <= u := by omega
   rw [isHi, decide_eq_false a, Bool.false_and])
  go_enter Tryz.func379, Tryz.ntmps379
  go_wp2
  go_ret
  exact ⟨ret_bool HX.out.symm, rfl⟩
theorem low_any (u : Nat) (w : World) : Calls Tryz.prog 380 #[.int .i32 (u : Int)] w fun e w' => e = .returned (.bool (isLo u)) /\ w = w' := by
 by_cases h1 : (56320 : Int) <= (u : Int)
 ·have HX : Hid (isLo u = decide ((u : Int) <= 57343)) := Lib.hid (by
   have a : 56320 <= u := by omega
   rw [isLo, decide_eq_true a, Bool.true_and, decide_eq_decide]; omega)
  go_enter Tryz.func380, Tryz.ntmps380
  go_wp2
  go_ret
  exact ⟨ret_bool HX.out.symm, rfl⟩
 ·have HX : Hid (isLo u = false) := Lib.hid (by
   have a : ¬ 56320 <= u := by omega
   rw [isLo, decide_eq_false a, Bool.false_and])
  go_enter Tryz.func380, Tryz.ntmps380
  go_wp2
  go_ret
  exact ⟨ret_bool HX.out.symm, rfl⟩
def ptP (u v : Nat) : Nat × Nat := if isHi u && isLo v then (65536 + (u - 55296) * 1024 + (v - 56320), 2) else (u, 1)
theorem point_in (s : ByteArray) (hs : s.size <= 16777216) (i : Nat) (hi : i < s.size / 2) (w : World) :
  Calls Tryz.prog 376 #[.string s, .int .i64 (i : Int)] w fun e w' => e = .returned (.tuple #[.int .i32 ((ptP ((unitsS s)[i]?.getD 0) ((unitsS s)[i + 1]?.getD 0)).1 : Nat), .int .i64 ((ptP ((unitsS s)[i]?.getD 0) ((unitsS s)[i + 1]?.getD 0)).2 : Nat)]) /\ ∃ n, w' = w.drewN n := by
 have HA := fun w => at_nat s hs i w
 have HB : ∀ w, Calls Tryz.prog 119 #[.string s, .int .i64 ((i : Int) + 1)] w fun e w' => e = .returned (.int .u16 (((unitsS s)[i + 1]?.getD 0 : Nat) : Int)) /\ ∃ n, w' = w.drewN n := fun w => by
  have := at_nat s hs (i + 1) w
  rwa [show ((i + 1 : Nat) : Int) = (i : Int) + 1 by omega] at this
 have hu : (unitsS s)[i]?.getD 0 < 65536 := by
  rcases h : (unitsS s)[i]? with _ | x
  ·decide
  ·exact units_lt _ x (List.mem_of_getElem? h)
 have hv : (unitsS s)[i + 1]?.getD 0 < 65536 := by
  rcases h : (unitsS s)[i + 1]? with _ | x
  ·decide
  ·exact units_lt _ x (List.mem_of_getElem? h)
 generalize (unitsS s)[i]?.getD 0 = u at hu HA ⊢
 generalize (unitsS s)[i + 1]?.getD 0 = v at hv HB ⊢
 have g0 : (i : Int) < (s.size : Int) / 2 := by omega
 have e2 : IntKind.i32.wrap (u : Int) = (u : Int) := IntWalk.i32_in _ (by omega)
 have e3 : IntKind.i32.wrap (v : Int) = (v : Int) := IntWalk.i32_in _ (by omega)
 have H1 := fun w => high_any u w
 have H2 := fun w => low_any v w
 rcases h1 : isHi u with _ | _
 ·have HP : Hid (ptP u v = (u, 1)) := Lib.hid (by simp [ptP, h1])
  rw [h1] at H1
  go_enter Tryz.func376, Tryz.ntmps376
  go_wp2_with (first | (go_at_call 119; ((with_reducible refine (HA _).mono ?_); rintro e w1 ⟨rfl, n1, rfl⟩)) | (go_at_call 119; ((with_reducible refine (HB _).mono ?_); rintro e w1 ⟨rfl, n2, rfl⟩)) | (go_at_call 80; ((with_reducible refine (len_any _ hs _).mono ?_); rintro e w1 ⟨rfl, rfl⟩)) | (go_at_call 379; ((with_reducible refine (H1 _).mono ?_); rintro e w1 ⟨rfl, rfl⟩)) | (go_at_call 380; ((with_reducible refine (H2 _).mono ?_); rintro e w1 ⟨rfl, rfl⟩)))
  go_ret2
  exact ⟨by rw [HP.out]; rfl, _, rfl⟩
 ·rw [h1] at H1
  rcases h2 : isLo v with _ | _
  ·have HP : Hid (ptP u v = (u, 1)) := Lib.hid (by simp [ptP, h1, h2])
   rw [h2] at H2
   go_enter Tryz.func376, Tryz.ntmps376
   go_wp2_with (first | (go_at_call 119; ((with_reducible refine (HA _).mono ?_); rintro e w1 ⟨rfl, n1, rfl⟩)) | (go_at_call 119; ((with_reducible refine (HB _).mono ?_); rintro e w1 ⟨rfl, n2, rfl⟩)) | (go_at_call 80; ((with_reducible refine (len_any _ hs _).mono ?_); rintro e w1 ⟨rfl, rfl⟩)) | (go_at_call 379; ((with_reducible refine (H1 _).mono ?_); rintro e w1 ⟨rfl, rfl⟩)) | (go_at_call 380; ((with_reducible refine (H2 _).mono ?_); rintro e w1 ⟨rfl, rfl⟩)))
   go_ret2
   exact ⟨by rw [HP.out]; rfl, _, rfl⟩
  ·have HP : Hid (ptP u v = (65536 + (u - 55296) * 1024 + (v - 56320), 2)) := Lib.hid (by simp [ptP, h1, h2])
   have HE : Hid (((65536 + (u - 55296) * 1024 + (v - 56320) : Nat) : Int) = 65536 + ((u : Int) - 55296) * 1024 + ((v : Int) - 56320)) := Lib.hid (by
    simp only [isHi, isLo, Bool.and_eq_true, decide_eq_true_eq] at h1 h2
    omega)
   rw [h2] at H2
   go_enter Tryz.func376, Tryz.ntmps376
   go_wp2_with (first | (go_at_call 119; ((with_reducible refine (HA _).mono ?_); rintro e w1 ⟨rfl, n1, rfl⟩)) | (go_at_call 119; ((with_reducible refine (HB _).mono ?_); rintro e w1 ⟨rfl, n2, rfl⟩)) | (go_at_call 80; ((with_reducible refine (len_any _ hs _).mono ?_); rintro e w1 ⟨rfl, rfl⟩)) | (go_at_call 379; ((with_reducible refine (H1 _).mono ?_); rintro e w1 ⟨rfl, rfl⟩)) | (go_at_call 380; ((with_reducible refine (H2 _).mono ?_); rintro e w1 ⟨rfl, rfl⟩)))
   go_ret2
   exact ⟨by
    rw [HP.out]
    show Ending.returned (.tuple #[.int .i32 (65536 + ((u : Int) - 55296) * 1024 + ((v : Int) - 56320)), .int .i64 2]) = .returned (.tuple #[.int .i32 ((65536 + (u - 55296) * 1024 + (v - 56320) : Nat) : Int), .int .i64 ((2 : Nat) : Int)])
    rw [HE.out]
    rfl, _, rfl⟩
def signs : List Nat -> List (List Nat)
 | [] => []
 | [u] => [[u]]
 | u :: v :: r => if isHi u && isLo v then [u, v] :: signs r else [u] :: signs (v :: r)
theorem isLo_zero : isLo 0 = false := rfl
theorem ptP_snd (u v : Nat) : (ptP u v).2 = 1 \/ (ptP u v).2 = 2 := by
 unfold ptP
 split
 ·exact .inr rfl
 ·exact .inl rfl
theorem signs_step (l : List Nat) (i : Nat) (hi : i < l.length) :
  signs (l.drop i) = (l.drop i).take (ptP (l[i]?.getD 0) (l[i + 1]?.getD 0)).2 :: signs (l.drop (i + (ptP (l[i]?.getD 0) (l[i + 1]?.getD 0)).2)) /\ i + (ptP (l[i]?.getD 0) (l[i + 1]?.getD 0)).2 <= l.length := by
 rw [List.getElem?_eq_getElem hi, Option.getD_some]
 by_cases h : i + 1 < l.length
 ·rw [List.getElem?_eq_getElem h, Option.getD_some]
  have e1 : l.drop i = l[i] :: l[i + 1] :: l.drop (i + 2) := by rw [List.drop_eq_getElem_cons hi, List.drop_eq_getElem_cons h]
  rcases hc : (isHi l[i] && isLo l[i + 1]) with _ | _
  ·have e2 : (ptP l[i] l[i + 1]).2 = 1 := by simp [ptP, hc]
   rw [e2]
   refine ⟨?_, by omega⟩
   conv => lhs; rw [e1]
   rw [signs, if_neg (by simp [hc]), List.drop_eq_getElem_cons h]
   rw [e1]; rfl
  ·have e2 : (ptP l[i] l[i + 1]).2 = 2 := by simp [ptP, hc]
   rw [e2]
   refine ⟨?_, by omega⟩
   conv => lhs; rw [e1]
   rw [signs, if_pos (by simp [hc])]
   rw [e1]; rfl
 ·have e0 : l[i + 1]?.getD 0 = 0 := by rw [List.getElem?_eq_none (by omega)]; rfl
  have e1 : l.drop i = [l[i]] := by rw [List.drop_eq_getElem_cons hi, List.drop_eq_nil_of_le (by omega)]
  have e2 : (ptP l[i] 0).2 = 1 := by simp [ptP, isLo_zero]
  rw [e0, e2]
  refine ⟨?_, by omega⟩
  rw [e1, List.drop_eq_nil_of_le (by omega)]
  rfl
end Go.Proofs.YtahkohfppakaiaaGreatDoor.W
namespace Go.Proofs.YtahkohfppakaiaaGreatDoor
open Go Go.RowKit
attribute [local go_sem] Oper.semAt_some
def sgN (s : ByteArray) (i : Nat) : Nat := (Go.Proofs.YtahkohfppakaiaaGreatDoor.W.ptP ((Go.Proofs.YtahkohfppakaiaaGreatDoor.W.unitsS s)[i]?.getD 0) ((Go.Proofs.YtahkohfppakaiaaGreatDoor.W.unitsS s)[i + 1]?.getD 0)).2
section
variable {w W W' : World} {G : List (Nat × TypeId × Array Value)} {h A m g iw o i : Nat} {ts : List TO} {E : Nat -> Prop} {st kd : Int} {s : ByteArray}
theorem LW.sign (H : LW w G h A m ts g #[.int .i64 7, .int .i64 0, .string s] st E W) (L : LawW ts iw o kd (.slice (some ⟨g, 0, none⟩) 1 1) (i : Int)) (hkd : kd = 2 \/ kd = 3) (hE : ∀ k, E k -> k < W.heap.size) (hs0 : 0 <= st) (hs1 : st < 4194304) (hl : ts.length < 99999) (hs : s.size <= 16777216) (hi : i < s.size / 2) :
  Calls Tryz.prog 20 #[.pointer (some ⟨m, 0, none⟩), valV (9, (iw : Int) + 1, ⟨#[]⟩), .string ⟨#[110, 101, 120, 116]⟩, .slice none 0 0] W fun e w' => e = .returned (.tuple #[valV (9, (ts.length : Int) + 1, ⟨#[]⟩), .int .i64 0]) /\ (∃ ts1, (∃ ob pv F, ts1 = ts.set iw (TO.wkr o kd (.slice (some ⟨g, 0, none⟩) 1 1) ((i : Int) + (sgN s i : Int))) ++ [(⟨ob, 0, 1, pv, .slice none 0 0, .nilIface, kd0, F, [(kVal, (7, 0, Go.Proofs.YtahkohfppakaiaaGreatDoor.W.subB s (i : Int) ((i : Int) + (sgN s i : Int))), 7), (kDone, tvV false, 7)]⟩ : TO)]) /\ LW w G h A m ts1 g #[.int .i64 7, .int .i64 0, .string s] (st + 1) E w') /\ (∀ b t c, t ∈ kvL -> E b -> Box W b t c -> Box w' b t c) /\ W.heap.size <= w'.heap.size := by
 refine H.ask L hE hs0 hs1 hl _ 0 (fun ts1 => ∃ ob pv F, ts1 = ts.set iw (TO.wkr o kd (.slice (some ⟨g, 0, none⟩) 1 1) ((i : Int) + (sgN s i : Int))) ++ [(⟨ob, 0, 1, pv, .slice none 0 0, .nilIface, kd0, F, [(kVal, (7, 0, Go.Proofs.YtahkohfppakaiaaGreatDoor.W.subB s (i : Int) ((i : Int) + (sgN s i : Int))), 7), (kDone, tvV false, 7)]⟩ : TO)]) (fun W1 f1 fo h1 hf hg => nx_more (cp := ((Go.Proofs.YtahkohfppakaiaaGreatDoor.W.ptP ((Go.Proofs.YtahkohfppakaiaaGreatDoor.W.unitsS s)[i]?.getD 0) ((Go.Proofs.YtahkohfppakaiaaGreatDoor.W.unitsS s)[i + 1]?.getD 0)).1 : Nat)) L hkd hl hs hi ?_ ⟨fun w' => ?_⟩ ⟨fun w' => ?_⟩ W1 f1 fo h1 hf hg)
 ·show sgN s i <= 2
  unfold sgN
  rcases Go.Proofs.YtahkohfppakaiaaGreatDoor.W.ptP_snd ((Go.Proofs.YtahkohfppakaiaaGreatDoor.W.unitsS s)[i]?.getD 0) ((Go.Proofs.YtahkohfppakaiaaGreatDoor.W.unitsS s)[i + 1]?.getD 0) with h9 | h9 <;> omega
 ·refine (Go.Proofs.YtahkohfppakaiaaGreatDoor.W.point_in s hs i hi w').mono ?_
  rintro e w9 ⟨he, n, hn⟩
  exact ⟨he, by rw [hn]; exact ⟨rfl, rfl, rfl, Nat.le_refl _, fun _ _ => rfl⟩⟩
 ·refine (Go.Proofs.YtahkohfppakaiaaGreatDoor.W.sub_any s hs (i : Int) ((i : Int) + (sgN s i : Int)) w').mono ?_
  rintro e w9 ⟨he, hw⟩
  exact ⟨he, by rw [<- hw]; exact Below.refl _ _⟩
theorem LW.last (H : LW w G h A m ts g #[.int .i64 7, .int .i64 0, .string s] st E W) (L : LawW ts iw o kd (.slice (some ⟨g, 0, none⟩) 1 1) (i : Int)) (hkd : kd = 2 \/ kd = 3) (hE : ∀ k, E k -> k < W.heap.size) (hs0 : 0 <= st) (hs1 : st < 4194304) (hl : ts.length < 99999) (hs : s.size <= 16777216) (hi : s.size / 2 <= i) (hi9 : i <= 8388608) :
  Calls Tryz.prog 20 #[.pointer (some ⟨m, 0, none⟩), valV (9, (iw : Int) + 1, ⟨#[]⟩), .string ⟨#[110, 101, 120, 116]⟩, .slice none 0 0] W fun e w' => e = .returned (.tuple #[valV (9, (ts.length : Int) + 1, ⟨#[]⟩), .int .i64 0]) /\ (∃ ts1, (∃ ob pv F, ts1 = ts.set iw (TO.wkr o kd (.slice none 0 0) (i : Int)) ++ [(⟨ob, 0, 1, pv, .slice none 0 0, .nilIface, kd0, F, [(kVal, zV, 7), (kDone, tvV true, 7)]⟩ : TO)]) /\ LW w G h A m ts1 g #[.int .i64 7, .int .i64 0, .string s] (st + 1) E w') /\ (∀ b t c, t ∈ kvL -> E b -> Box W b t c -> Box w' b t c) /\ W.heap.size <= w'.heap.size := by
 exact H.ask L hE hs0 hs1 hl _ 0 _ (fun W1 f1 fo h1 hf hg => nx_end L hkd hl hs hi hi9 W1 f1 fo h1 hf hg)
theorem LW.gone {at_ : Int} (H : LW w G h A m ts g #[.int .i64 7, .int .i64 0, .string s] st E W) (L : LawW ts iw o kd (.slice none 0 0) at_) (hkd : kd = 2 \/ kd = 3) (hE : ∀ k, E k -> k < W.heap.size) (hs0 : 0 <= st) (hs1 : st < 4194304) (hl : ts.length < 99999) :
  Calls Tryz.prog 20 #[.pointer (some ⟨m, 0, none⟩), valV (9, (iw : Int) + 1, ⟨#[]⟩), .string ⟨#[110, 101, 120, 116]⟩, .slice none 0 0] W fun e w' => e = .returned (.tuple #[valV (9, (ts.length : Int) + 1, ⟨#[]⟩), .int .i64 0]) /\ (∃ ts1, (∃ ob pv F, ts1 = ts ++ [(⟨ob, 0, 1, pv, .slice none 0 0, .nilIface, kd0, F, [(kVal, zV, 7), (kDone, tvV true, 7)]⟩ : TO)]) /\ LW w G h A m ts1 g #[.int .i64 7, .int .i64 0, .string s] (st + 1) E w') /\ (∀ b t c, t ∈ kvL -> E b -> Box W b t c -> Box w' b t c) /\ W.heap.size <= w'.heap.size := by
 exact H.ask L hE hs0 hs1 hl _ 0 _ (fun W1 f1 fo h1 hf _ => nx_done L hkd hl W1 f1 fo h1 hf)
end
end Go.Proofs.YtahkohfppakaiaaGreatDoor
namespace Go.Proofs.YtahkohfppakaiaaGreatDoor
open Go Go.RowKit
theorem MC.walker {w W : World} {h A m : Nat} {ts : List TO} (H : MC w h A m ts W) (G : List (Nat × TypeId × Array Value)) (hG : ∀ q ∈ G, GhAt W h A m ts q) (E : Nat -> Prop) (hE : ∀ k, E k -> k < W.heap.size) (kd : Int) (v : Vt) :
  Calls Tryz.prog 15 #[.pointer (some ⟨m, 0, none⟩), .int .i64 kd, valV v] W fun e w' => e = .returned (valV (9, 38, ⟨#[]⟩)) /\ (∃ o g ts1, LawW ts1 37 o kd (.slice (some ⟨g, 0, none⟩) 1 1) 0 /\ ts1.length = 38 /\ LW w G h A m ts1 g #[.int .i64 v.1, .int .i64 v.2.1, .string v.2.2] 0 E w') /\ (∀ b t c, t ∈ kvL -> Box W b t c -> Box w' b t c) /\ W.heap.size <= w'.heap.size := by
 have hlen : ts.length = 37 := H.s.len
 have key := (H.s.mp.ghost G hG).walker rfl (by omega) kd v
 rw [hlen] at key
 refine key.mono ?_
 rintro e w' ⟨he, o, g, h1, h2, h3, h4⟩
 have hge : ∀ (k : Nat) t u, ts[k]? = some t -> (ts ++ [u])[k]? = some t := fun k t u hg => by
  rw [List.getElem?_append_left (List.getElem?_eq_some_iff.1 hg).1]
  exact hg
 obtain ⟨t0, a1, a2⟩ := H.s.pl 0 (by decide) (by decide) (by decide)
 obtain ⟨t1, b1, b2⟩ := H.s.p11
 obtain ⟨t3, c1, ⟨d1, d2, d3, d4⟩, -⟩ := H.s.fn 14 (by decide)
 refine ⟨he, ⟨o, g, _, ⟨by rw [<- hlen, List.getElem?_append_right (Nat.le_refl _), Nat.sub_self]; rfl, by decide, ⟨t0, hge _ _ _ a1, a2⟩, ⟨t1, hge _ _ _ b1, b2⟩, ⟨t3, hge _ _ _ c1, d1, d3, by rw [d4]; rfl⟩⟩, by rw [List.length_append, hlen]; rfl, ⟨⟨.slice none 0 0, .slice none 0 0, h1, ⟨⟨by simp, .inl ⟨rfl, rfl⟩⟩, ⟨by simp, .inl ⟨rfl, rfl⟩⟩⟩, fun k hk => ?_, h2, fun h9 => ?_⟩, H.bel.trans (h4.bel.mono H.lo), H.lo⟩⟩, fun b t c hT hbx => h4.boxE hbx hT, h4.bel.size⟩
 ·rcases hk with hk | hk <;> cases hk
 ·have := hE g h9
  omega
end Go.Proofs.YtahkohfppakaiaaGreatDoor
namespace Go.Proofs.YtahkohfppakaiaaGreatDoor
open Go Go.RowKit
attribute [local go_sem] Oper.semAt_some
theorem true_false (W : World) : Calls Tryz.prog 22 #[valV (tvV false)] W fun e w' => e = .returned (.bool false) /\ Below W.heap.size W w' := by
 rw [show tvV false = ((2, 0, ⟨#[]⟩) : Vt) from rfl]
 obtain ⟨xb, hxb⟩ : ∃ xb, W.heap.size = xb := ⟨_, rfl⟩
 obtain ⟨W0, hW0⟩ : ∃ W0, (W.alloc (.cells #[.int .i64 2, .int .i64 0, .string ⟨#[]⟩] 28)) = W0 := ⟨_, rfl⟩
 have bb : Below W.heap.size W W0 := by rw [<- hW0]; exact ((Below.refl _ _).alloc (Nat.le_refl _) _)
 have xxb : Box W0 xb 28 #[.int .i64 2, .int .i64 0, .string ⟨#[]⟩] := by have h9 := Box.new W 28 #[.int .i64 2, .int .i64 0, .string ⟨#[]⟩]; rw [hW0, hxb] at h9; exact h9
 have HW0 := Veil.mk (And.intro hW0 (hxb))
 have HBB := Veil.mk (And.intro bb (xxb))
 have HLO : Veil (W.heap.size <= xb) := ⟨by omega⟩
 clear hW0 bb hxb xxb
 have c0 : W0.cell? ⟨xb, 0, none⟩ = some (.int .i64 2) := HBB.out.2.at_ 0
 have c1 : W0.cell? ⟨xb, 1, none⟩ = some (.int .i64 0) := HBB.out.2.at_ 1
 go_enter Tryz.func22, Tryz.ntmps22
 go_upto_region 1 with (fail)
 rw [HW0.out.1, HW0.out.2]
 go_wp2
 go_ret
 exact ⟨rfl, HBB.out.1⟩
theorem true_true (W : World) : Calls Tryz.prog 22 #[valV (tvV true)] W fun e w' => e = .returned (.bool true) /\ Below W.heap.size W w' := by
 rw [show tvV true = ((2, 1, ⟨#[]⟩) : Vt) from rfl]
 obtain ⟨xb, hxb⟩ : ∃ xb, W.heap.size = xb := ⟨_, rfl⟩
 obtain ⟨W0, hW0⟩ : ∃ W0, (W.alloc (.cells #[.int .i64 2, .int .i64 1, .string ⟨#[]⟩] 28)) = W0 := ⟨_, rfl⟩
 have bb : Below W.heap.size W W0 := by rw [<- hW0]; exact ((Below.refl _ _).alloc (Nat.le_refl _) _)
 have xxb : Box W0 xb 28 #[.int .i64 2, .int .i64 1, .string ⟨#[]⟩] := by have h9 := Box.new W 28 #[.int .i64 2, .int .i64 1, .string ⟨#[]⟩]; rw [hW0, hxb] at h9; exact h9
 have HW0 := Veil.mk (And.intro hW0 (hxb))
 have HBB := Veil.mk (And.intro bb (xxb))
 have HLO : Veil (W.heap.size <= xb) := ⟨by omega⟩
 clear hW0 bb hxb xxb
 have c0 : W0.cell? ⟨xb, 0, none⟩ = some (.int .i64 2) := HBB.out.2.at_ 0
 have c1 : W0.cell? ⟨xb, 1, none⟩ = some (.int .i64 1) := HBB.out.2.at_ 1
 go_enter Tryz.func22, Tryz.ntmps22
 go_upto_region 1 with (fail)
 rw [HW0.out.1, HW0.out.2]
 go_wp2
 go_ret
 exact ⟨rfl, HBB.out.1⟩
theorem true_v (d : Bool) (W : World) : Calls Tryz.prog 22 #[valV (tvV d)] W fun e w' => e = .returned (.bool d) /\ Below W.heap.size W w' := by
 cases d
 ·exact true_false W
 ·exact true_true W
section
variable {w W : World} {G : List (Nat × TypeId × Array Value)} {h A m g iw o ob ir : Nat} {ts : List TO} {cs : Array Value} {E : Nat -> Prop} {st kd at_ : Int} {sl pv : Value} {F : Nat -> Prop} {v : Vt} {d : Bool}
theorem LW.value (H : LW w G h A m (ts ++ [(⟨ob, 0, 1, pv, .slice none 0 0, .nilIface, kd0, F, [(kVal, v, 7), (kDone, tvV d, 7)]⟩ : TO)]) g cs st E W) (L : LawW (ts ++ [(⟨ob, 0, 1, pv, .slice none 0 0, .nilIface, kd0, F, [(kVal, v, 7), (kDone, tvV d, 7)]⟩ : TO)]) iw o kd sl at_) (hir : ts.length = ir) (hl : ts.length < 99998) :
  Calls Tryz.prog 21 #[.pointer (some ⟨m, 0, none⟩), valV (9, (ir : Int) + 1, ⟨#[]⟩), .string ⟨#[118, 97, 108, 117, 101]⟩] W fun e w' => e = .returned (.tuple #[valV v, .int .i64 0]) /\ Below W.heap.size W w' := by
 obtain ⟨na, ca, h1, -⟩ := H.x
 obtain ⟨t0, h0, hp0⟩ := L.p0
 have ht : (ts ++ [(⟨ob, 0, 1, pv, .slice none 0 0, .nilIface, kd0, F, [(kVal, v, 7), (kDone, tvV d, 7)]⟩ : TO)])[ir]? = some (⟨ob, 0, 1, pv, .slice none 0 0, .nilIface, kd0, F, [(kVal, v, 7), (kDone, tvV d, 7)]⟩ : TO) := by rw [<- hir, List.getElem?_append_right (Nat.le_refl _), Nat.sub_self]; rfl
 exact h1.part (by rw [List.length_append]; show ts.length + 1 < 100000; omega) ht rfl rfl h0 hp0 ⟨#[118, 97, 108, 117, 101]⟩ kVal v (look_val v _) rfl (by decide) val_value
theorem LW.done (H : LW w G h A m (ts ++ [(⟨ob, 0, 1, pv, .slice none 0 0, .nilIface, kd0, F, [(kVal, v, 7), (kDone, tvV d, 7)]⟩ : TO)]) g cs st E W) (L : LawW (ts ++ [(⟨ob, 0, 1, pv, .slice none 0 0, .nilIface, kd0, F, [(kVal, v, 7), (kDone, tvV d, 7)]⟩ : TO)]) iw o kd sl at_) (hir : ts.length = ir) (hl : ts.length < 99998) :
  Calls Tryz.prog 21 #[.pointer (some ⟨m, 0, none⟩), valV (9, (ir : Int) + 1, ⟨#[]⟩), .string ⟨#[100, 111, 110, 101]⟩] W fun e w' => e = .returned (.tuple #[valV (tvV d), .int .i64 0]) /\ Below W.heap.size W w' := by
 obtain ⟨na, ca, h1, -⟩ := H.x
 obtain ⟨t0, h0, hp0⟩ := L.p0
 have ht : (ts ++ [(⟨ob, 0, 1, pv, .slice none 0 0, .nilIface, kd0, F, [(kVal, v, 7), (kDone, tvV d, 7)]⟩ : TO)])[ir]? = some (⟨ob, 0, 1, pv, .slice none 0 0, .nilIface, kd0, F, [(kVal, v, 7), (kDone, tvV d, 7)]⟩ : TO) := by rw [<- hir, List.getElem?_append_right (Nat.le_refl _), Nat.sub_self]; rfl
 exact h1.part (by rw [List.length_append]; show ts.length + 1 < 100000; omega) ht rfl rfl h0 hp0 ⟨#[100, 111, 110, 101]⟩ kDone (tvV d) (look_done v _) rfl (by decide) val_done
end
end Go.Proofs.YtahkohfppakaiaaGreatDoor
namespace Go.Proofs.YtahkohfppakaiaaGreatDoor
open Go Go.RowKit
theorem sgN_eq (l : List Nat) (hU : ∀ u ∈ l, u < 65536) (i : Nat) : sgN (W.strU l) i = (W.ptP (l[i]?.getD 0) (l[i + 1]?.getD 0)).2 := by
 unfold sgN
 rw [W.strU_units l hU]
theorem sign_step (l : List Nat) (hU : ∀ u ∈ l, u < 65536) (i : Nat) (hi : i < l.length) :
  ∃ us, W.signs (l.drop i) = us :: W.signs (l.drop (i + sgN (W.strU l) i)) /\ W.subB (W.strU l) (i : Int) ((i : Int) + (sgN (W.strU l) i : Int)) = W.strU us /\ i + sgN (W.strU l) i <= l.length /\ 1 <= sgN (W.strU l) i := by
 obtain ⟨h1, h2⟩ := W.signs_step l i hi
 rw [<- sgN_eq l hU i] at h1 h2
 have h3 : 1 <= sgN (W.strU l) i := by
  rw [sgN_eq l hU i]
  rcases W.ptP_snd (l[i]?.getD 0) (l[i + 1]?.getD 0) with h | h <;> omega
 refine ⟨_, h1, ?_, h2, h3⟩
 rw [W.strU_sub l (i : Int) ((i : Int) + (sgN (W.strU l) i : Int)) i (i + sgN (W.strU l) i) (by omega) (by omega), Nat.add_sub_cancel_left]
theorem strU_half (l : List Nat) : (W.strU l).size / 2 = l.length := by
 rw [W.strU_size]
 omega
section
variable {w W : World} {G : List (Nat × TypeId × Array Value)} {h A m g iw o i : Nat} {ts : List TO} {E : Nat -> Prop} {st kd : Int} {l : List Nat}
theorem LW.round (H : LW w G h A m ts g #[.int .i64 7, .int .i64 0, .string (Go.Proofs.YtahkohfppakaiaaGreatDoor.W.strU l)] st E W) (hkd : kd = 2 \/ kd = 3) (hE : ∀ k, E k -> k < W.heap.size) (hs0 : 0 <= st) (hs1 : st < 4194304) (hl : ts.length < 99999) (L : LawW ts iw o kd (.slice (some ⟨g, 0, none⟩) 1 1) (i : Int)) (hU : ∀ u ∈ l, u < 65536) (hlen : l.length <= 8388608) (hi : i < l.length) :
  ∃ us i', Go.Proofs.YtahkohfppakaiaaGreatDoor.W.signs (l.drop i) = us :: Go.Proofs.YtahkohfppakaiaaGreatDoor.W.signs (l.drop i') /\ i < i' /\ i' <= l.length /\ Calls Tryz.prog 20 #[.pointer (some ⟨m, 0, none⟩), valV (9, (iw : Int) + 1, ⟨#[]⟩), .string ⟨#[110, 101, 120, 116]⟩, .slice none 0 0] W fun e w' => e = .returned (.tuple #[valV (9, (ts.length : Int) + 1, ⟨#[]⟩), .int .i64 0]) /\ (∃ ts' ob pv F, ts'.length = ts.length /\ LawW (ts' ++ [(⟨ob, 0, 1, pv, .slice none 0 0, .nilIface, kd0, F, [(kVal, (7, 0, Go.Proofs.YtahkohfppakaiaaGreatDoor.W.strU us), 7), (kDone, tvV false, 7)]⟩ : TO)]) iw o kd (.slice (some ⟨g, 0, none⟩) 1 1) ((i' : Int)) /\ LW w G h A m (ts' ++ [(⟨ob, 0, 1, pv, .slice none 0 0, .nilIface, kd0, F, [(kVal, (7, 0, Go.Proofs.YtahkohfppakaiaaGreatDoor.W.strU us), 7), (kDone, tvV false, 7)]⟩ : TO)]) g #[.int .i64 7, .int .i64 0, .string (Go.Proofs.YtahkohfppakaiaaGreatDoor.W.strU l)] (st + 1) E w') /\ (∀ b t c, t ∈ kvL -> E b -> Box W b t c -> Box w' b t c) /\ W.heap.size <= w'.heap.size := by
 obtain ⟨us, h1, h2, h3, h4⟩ := sign_step l hU i hi
 refine ⟨us, i + sgN (Go.Proofs.YtahkohfppakaiaaGreatDoor.W.strU l) i, h1, by omega, h3, ?_⟩
 have hsz := Go.Proofs.YtahkohfppakaiaaGreatDoor.W.strU_size l
 refine (H.sign L hkd hE hs0 hs1 hl (by omega) (by rw [strU_half]; exact hi)).mono ?_
 rintro e w' ⟨he, ⟨ts1, ⟨ob, pv, F, e1⟩, hw⟩, hb, hs⟩
 rw [h2] at e1
 subst e1
 exact ⟨he, ⟨_, ob, pv, F, List.length_set .., L.set.more _, hw⟩, hb, hs⟩
theorem LW.round_end (H : LW w G h A m ts g #[.int .i64 7, .int .i64 0, .string (Go.Proofs.YtahkohfppakaiaaGreatDoor.W.strU l)] st E W) (hkd : kd = 2 \/ kd = 3) (hE : ∀ k, E k -> k < W.heap.size) (hs0 : 0 <= st) (hs1 : st < 4194304) (hl : ts.length < 99999) (L : LawW ts iw o kd (.slice (some ⟨g, 0, none⟩) 1 1) (i : Int)) (hlen : l.length <= 8388608) (hi : i = l.length) :
  Calls Tryz.prog 20 #[.pointer (some ⟨m, 0, none⟩), valV (9, (iw : Int) + 1, ⟨#[]⟩), .string ⟨#[110, 101, 120, 116]⟩, .slice none 0 0] W fun e w' => e = .returned (.tuple #[valV (9, (ts.length : Int) + 1, ⟨#[]⟩), .int .i64 0]) /\ (∃ ts' ob pv F, ts'.length = ts.length /\ LawW (ts' ++ [(⟨ob, 0, 1, pv, .slice none 0 0, .nilIface, kd0, F, [(kVal, zV, 7), (kDone, tvV true, 7)]⟩ : TO)]) iw o kd (.slice none 0 0) ((i : Int)) /\ LW w G h A m (ts' ++ [(⟨ob, 0, 1, pv, .slice none 0 0, .nilIface, kd0, F, [(kVal, zV, 7), (kDone, tvV true, 7)]⟩ : TO)]) g #[.int .i64 7, .int .i64 0, .string (Go.Proofs.YtahkohfppakaiaaGreatDoor.W.strU l)] (st + 1) E w') /\ (∀ b t c, t ∈ kvL -> E b -> Box W b t c -> Box w' b t c) /\ W.heap.size <= w'.heap.size := by
 have hsz := Go.Proofs.YtahkohfppakaiaaGreatDoor.W.strU_size l
 refine (H.last L hkd hE hs0 hs1 hl (by omega) (by rw [strU_half]; omega) (by omega)).mono ?_
 rintro e w' ⟨he, ⟨ts1, ⟨ob, pv, F, e1⟩, hw⟩, hb, hs⟩
 subst e1
 exact ⟨he, ⟨_, ob, pv, F, List.length_set .., L.set.more _, hw⟩, hb, hs⟩
theorem LW.round_gone {at_ : Int} (H : LW w G h A m ts g #[.int .i64 7, .int .i64 0, .string (Go.Proofs.YtahkohfppakaiaaGreatDoor.W.strU l)] st E W) (hkd : kd = 2 \/ kd = 3) (hE : ∀ k, E k -> k < W.heap.size) (hs0 : 0 <= st) (hs1 : st < 4194304) (hl : ts.length < 99999) (L : LawW ts iw o kd (.slice none 0 0) at_) :
  Calls Tryz.prog 20 #[.pointer (some ⟨m, 0, none⟩), valV (9, (iw : Int) + 1, ⟨#[]⟩), .string ⟨#[110, 101, 120, 116]⟩, .slice none 0 0] W fun e w' => e = .returned (.tuple #[valV (9, (ts.length : Int) + 1, ⟨#[]⟩), .int .i64 0]) /\ (∃ ts' ob pv F, ts'.length = ts.length /\ LawW (ts' ++ [(⟨ob, 0, 1, pv, .slice none 0 0, .nilIface, kd0, F, [(kVal, zV, 7), (kDone, tvV true, 7)]⟩ : TO)]) iw o kd (.slice none 0 0) (at_) /\ LW w G h A m (ts' ++ [(⟨ob, 0, 1, pv, .slice none 0 0, .nilIface, kd0, F, [(kVal, zV, 7), (kDone, tvV true, 7)]⟩ : TO)]) g #[.int .i64 7, .int .i64 0, .string (Go.Proofs.YtahkohfppakaiaaGreatDoor.W.strU l)] (st + 1) E w') /\ (∀ b t c, t ∈ kvL -> E b -> Box W b t c -> Box w' b t c) /\ W.heap.size <= w'.heap.size := by
 refine (H.gone L hkd hE hs0 hs1 hl).mono ?_
 rintro e w' ⟨he, ⟨ts1, ⟨ob, pv, F, e1⟩, hw⟩, hb, hs⟩
 subst e1
 exact ⟨he, ⟨ts, ob, pv, F, rfl, L.more _, hw⟩, hb, hs⟩
end
end Go.Proofs.YtahkohfppakaiaaGreatDoor
namespace Go.Proofs.YtahkohfppakaiaaGreatDoor
open Go Go.RowKit
attribute [local go_sem] Oper.semAt_some
theorem own_stay {w w' : World} {B n size : Nat} {v : Value} {xs : List Value} {T : TypeId} (h : w.ownsRow B T size v n xs) (hk : ∀ b c, v.ownBlock = some b -> Box w b T c -> Box w' b T c) : w'.ownsRow B T size v n xs := own_blk h (fun k hk2 => by
 rcases h.2 with ⟨h1, -⟩ | ⟨g, cap, cur, e1, e2, e3, -⟩
 ·rw [h1] at hk2
  cases hk2
 ·rw [e1] at hk2
  cases hk2
  exact (hk g cur (by rw [e1]; rfl) e3).trans e3.symm)
structure AskSt (B0 m : Nat) (wv : Vt) (vs : List Vt) (P : Nat -> (Nat -> Prop) -> World -> Prop) : Prop where
 on : ∀ {j E W W'}, P j E W -> Below W.heap.size W W' -> P j E W'
 excl : ∀ {j E W} {E' : Nat -> Prop}, P j E W -> (∀ k, E' k -> E k \/ W.heap.size <= k) -> P j E' W
 touch : ∀ {j E S W W'}, P j E W -> Touch S W W' -> (∀ k, S k -> E k /\ B0 <= k /\ Lab W k VTy) -> P j E W'
 ask : ∀ {j E W}, P j E W -> j <= vs.length -> (∀ k, E k -> k < W.heap.size) -> Calls Tryz.prog 20 #[.pointer (some ⟨m, 0, none⟩), valV wv, .string ⟨#[110, 101, 120, 116]⟩, .slice none 0 0] W fun e w' => ∃ r v d, e = .returned (.tuple #[valV r, .int .i64 0]) /\ (j < vs.length -> d = false /\ vs[j]? = some v) /\ (j = vs.length -> d = true /\ v = zV) /\ P (j + 1) E w' /\ (∀ w9, Below w'.heap.size w' w9 -> Calls Tryz.prog 21 #[.pointer (some ⟨m, 0, none⟩), valV r, .string ⟨#[100, 111, 110, 101]⟩] w9 fun e w' => e = .returned (.tuple #[valV (tvV d), .int .i64 0]) /\ Below w9.heap.size w9 w') /\ (∀ w9, Below w'.heap.size w' w9 -> Calls Tryz.prog 21 #[.pointer (some ⟨m, 0, none⟩), valV r, .string ⟨#[118, 97, 108, 117, 101]⟩] w9 fun e w' => e = .returned (.tuple #[valV v, .int .i64 0]) /\ Below w9.heap.size w9 w') /\ (∀ b t c, t ∈ kvL -> E b -> Box W b t c -> Box w' b t c) /\ W.heap.size <= w'.heap.size
structure AL (P : Nat -> (Nat -> Prop) -> World -> Prop) (W : World) (E0 : Nat -> Prop) (vs : List Vt) (Bo tb : Nat) (fv : Vt) (j : Nat) (rv : Value) (wr : World) : Prop where
 p : P j (fun k => E0 k \/ k = tb \/ rv.ownBlock = some k) wr
 tb : Box wr tb VTy #[.int .i64 fv.1, .int .i64 fv.2.1, .string fv.2.2]
 row : wr.ownsRow Bo VTy 3 rv j (flatV (vs.take j))
 jl : j <= vs.length
 sz : Bo <= wr.heap.size
 bx : ∀ b t c, t ∈ kvL -> E0 b -> Box W b t c -> Box wr b t c
section
variable {P : Nat -> (Nat -> Prop) -> World -> Prop} {W : World} {B0 m : Nat} {fv : Vt} {vs : List Vt} {E0 : Nat -> Prop}
theorem AL.next (S : AskSt B0 m fv vs P) {Bo tb j : Nat} {v : Vt} {u6 : Value} {wr w2 w8 w9 : World} (H : AL P W E0 vs Bo tb fv j u6 wr) (hE0 : ∀ k, E0 k -> k < W.heap.size) (hWB : W.heap.size <= Bo) (hB0 : B0 <= Bo) (htb : tb < Bo) (hv : vs[j]? = some v)
  (hp : P (j + 1) (fun k => E0 k \/ k = tb \/ u6.ownBlock = some k) w2) (hbx : ∀ b t c, t ∈ kvL -> (E0 b \/ b = tb \/ u6.ownBlock = some b) -> Box wr b t c -> Box w2 b t c) (hs2 : wr.heap.size <= w2.heap.size) (hb8 : Below w2.heap.size w2 w8) {g cap : Nat} (hown : w9.ownsRow Bo VTy 3 (.slice (some ⟨g, 0, none⟩) (j + 1) cap) (j + 1) (flatV (vs.take j) ++ [.int .i64 v.1, .int .i64 v.2.1, .string v.2.2])) (hg : (w8.alloc (.cells #[.int .i64 v.1, .int .i64 v.2.1, .string v.2.2] VTy)).grownBy w9 u6.ownBlock) (hgb : u6.ownBlock = some g \/ g = (w8.alloc (.cells #[.int .i64 v.1, .int .i64 v.2.1, .string v.2.2] VTy)).heap.size) :
  AL P W E0 vs Bo tb fv (j + 1) (.slice (some ⟨g, 0, none⟩) (j + 1) cap) w9 := by
 have hrow2 : w2.ownsRow Bo VTy 3 u6 j (flatV (vs.take j)) := own_stay H.row (fun b c h1 h2 => hbx b VTy c (by decide) (.inr (.inr h1)) h2)
 have hrow8 := own_below hrow2 hb8
 have ht : Touch (fun k => u6.ownBlock = some k) w8 w9 := (Touch.of_below ((Below.refl _ _).alloc (Nat.le_refl _) _)).trans (Touch.of_grown hg (fun k hk => hk))
 have hlt : j < vs.length := (List.getElem?_eq_some_iff.1 hv).1
 have h28 := hb8.size
 have h89 := ht.size
 refine ⟨?_, ?_, ?_, hlt, by have := H.sz; omega, fun b t c h1 h2 h3 => ?_⟩
 ·have p8 := S.excl (E' := fun k => (E0 k \/ k = tb \/ u6.ownBlock = some k) \/ w8.heap.size <= k) (S.on hp hb8) (fun k hk => hk)
  have p9 := S.touch p8 ht (fun k hk => ⟨.inl (.inr (.inr hk)), by have := (own_lt hrow8 k hk).1; omega, own_lab hrow8 k hk⟩)
  refine S.excl p9 (fun k hk => .inl ?_)
  rcases hk with hk | hk | hk
  ·exact .inl (.inl hk)
  ·exact .inl (.inr (.inl hk))
  ·have hk : some g = some k := hk
   injection hk with hk
   subst hk
   rcases hgb with h9 | h9
   ·exact .inl (.inr (.inr h9))
   ·rw [World.size_alloc] at h9
    exact .inr (by omega)
 ·exact ((hbx tb VTy _ (by decide) (.inr (.inl rfl)) H.tb).below hb8).touch ht (fun hk => by have := (own_lt hrow8 tb hk).1; omega)
 ·have e : flatV (vs.take (j + 1)) = flatV (vs.take j) ++ [.int .i64 v.1, .int .i64 v.2.1, .string v.2.2] := by
   rw [List.take_add_one, hv]
   unfold flatV
   rw [List.flatMap_append]
   rfl
  rw [e]
  exact hown
 ·exact ((hbx b t c h1 (.inl h2) (H.bx b t c h1 h2 h3)).below hb8).touch ht (fun hk => by have := (own_lt hrow8 b hk).1; have := hE0 b h2; omega)
theorem AL.fin (S : AskSt B0 m fv vs P) {Bo tb j : Nat} {u6 : Value} {wr w2 w9 : World} (H : AL P W E0 vs Bo tb fv j u6 wr) (hWB : W.heap.size <= Bo) (hj : j = vs.length) (hp : P (j + 1) (fun k => E0 k \/ k = tb \/ u6.ownBlock = some k) w2) (hbx : ∀ b t c, t ∈ kvL -> (E0 b \/ b = tb \/ u6.ownBlock = some b) -> Box wr b t c -> Box w2 b t c) (hs2 : wr.heap.size <= w2.heap.size) (hb : Below w2.heap.size w2 w9) :
  RowV w9 u6 vs /\ (∀ k, u6.ownBlock = some k -> W.heap.size <= k) /\ P (vs.length + 1) (fun k => E0 k \/ u6.ownBlock = some k) w9 /\ (∀ b t c, t ∈ kvL -> E0 b -> Box W b t c -> Box w9 b t c) /\ W.heap.size <= w9.heap.size := by
 have hrow2 : w2.ownsRow Bo VTy 3 u6 j (flatV (vs.take j)) := own_stay H.row (fun b c h1 h2 => hbx b VTy c (by decide) (.inr (.inr h1)) h2)
 have hrow9 := own_below hrow2 hb
 have hz := H.sz
 have hz2 := hb.size
 rw [hj, List.take_length] at hrow9
 subst hj
 exact ⟨RowV.own hrow9, fun k hk => Nat.le_trans hWB (own_lt hrow9 k hk).1, S.excl (S.on hp hb) (fun k hk => .inl (hk.elim .inl (fun h => .inr (.inr h)))), fun b t c h1 h2 h3 => (hbx b t c h1 (.inl h2) (H.bx b t c h1 h2 h3)).below hb, by omega⟩
set_option maxRecDepth 100000 in
set_option maxHeartbeats 8000000 in
theorem all_any (S : AskSt B0 m fv vs P) (H : P 0 E0 W) (hB0 : B0 <= W.heap.size) (hE0 : ∀ k, E0 k -> k < W.heap.size) (hn : vs.length <= 10000) :
  Calls Tryz.prog 17 #[.pointer (some ⟨m, 0, none⟩), valV fv] W fun e w' => ∃ rv, e = .returned (.tuple #[rv, .bool true]) /\ RowV w' rv vs /\ (∀ k, rv.ownBlock = some k -> W.heap.size <= k) /\ P (vs.length + 1) (fun k => E0 k \/ rv.ownBlock = some k) w' /\ (∀ b t c, t ∈ kvL -> E0 b -> Box W b t c -> Box w' b t c) /\ W.heap.size <= w'.heap.size := by
 obtain ⟨tb, htb⟩ : ∃ tb, W.heap.size = tb := ⟨_, rfl⟩
 obtain ⟨W0, hW0⟩ : ∃ W0, (W.alloc (.cells #[.int .i64 fv.1, .int .i64 fv.2.1, .string fv.2.2] 28)) = W0 := ⟨_, rfl⟩
 have bb : Below W.heap.size W W0 := by rw [<- hW0]; exact ((Below.refl _ _).alloc (Nat.le_refl _) _)
 have xtb : Box W0 tb 28 #[.int .i64 fv.1, .int .i64 fv.2.1, .string fv.2.2] := by have h9 := Box.new W 28 #[.int .i64 fv.1, .int .i64 fv.2.1, .string fv.2.2]; rw [hW0, htb] at h9; exact h9
 have HW0 := Veil.mk (And.intro hW0 (htb))
 have HBB := Veil.mk (And.intro bb (xtb))
 have HLO : Veil (W.heap.size <= tb) := ⟨by omega⟩
 clear hW0 bb htb xtb
 obtain ⟨Bo, hBo⟩ : ∃ Bo, W0.heap.size = Bo := ⟨_, rfl⟩
 have HBo : Veil (W.heap.size <= Bo /\ tb < Bo /\ B0 <= Bo) := ⟨by have h1 := HBB.out.1.size; have h2 := HBB.out.2.lt; omega⟩
 have H0 : Veil (AL P W E0 vs Bo tb fv 0 (.slice none 0 0) W0) := ⟨by
  refine ⟨S.on (S.excl H (fun k hk => ?_)) HBB.out.1, HBB.out.2, ⟨rfl, .inl ⟨rfl, rfl⟩⟩, Nat.zero_le _, Nat.le_of_eq hBo.symm, fun b t c _ _ h3 => h3.below HBB.out.1⟩
  rcases hk with hk | hk | hk
  ·exact .inl hk
  ·exact .inr (by rw [hk]; exact HLO.out)
  ·cases hk⟩
 have HS := Veil.mk S
 have HE0 := Veil.mk hE0
 have HN := Veil.mk hn
 obtain ⟨iv0, iv1, iv2, iv3, iv4⟩ := info_parts Tryz.infoW
 clear H S hBo hE0 hn hB0
 go_enter Tryz.func17, Tryz.ntmps17
 go_upto_region 1 with (fail)
 rw [HW0.out.1, HW0.out.2]
 go_wp2
 go_loopw [6, 13] (fun rv jv wr => ∃ j : Nat, jv = .int .i64 (j : Int) /\ AL P W E0 vs Bo tb fv j rv wr) (fun _ jv _ => 20000 - (intOf jv).toNat)
 case atStart => exact ⟨0, rfl, H0.out⟩
 case round =>
  clear H0
  obtain ⟨j, rfl, hal⟩ := hrel
  have hj0 : (0 : Int) <= (j : Int) := by omega
  have hj1 : (j : Int) < 20000 := by have := hal.jl; have := HN.out; omega
  have htb := hal.tb
  have c0 : wr.cell? ⟨tb, 0, none⟩ = some (.int .i64 fv.1) := htb.at_ 0
  have c1 : wr.cell? ⟨tb, 1, none⟩ = some (.int .i64 fv.2.1) := htb.at_ 1
  have c2 : wr.cell? ⟨tb, 2, none⟩ = some (.string fv.2.2) := htb.at_ 2
  have HK := Veil.mk (HS.out.ask hal.p hal.jl (fun k hk => by
   rcases hk with hk | hk | hk
   ·have := HE0.out k hk
    have := hal.sz
    have := HBo.out.1
    omega
   ·rw [hk]
    exact htb.lt
   ·exact (own_lt hal.row k hk).2))
  have HAL := Veil.mk hal
  clear hal htb
  go_upto_region 5 with (go_at_call 20; ((with_reducible refine HK.out.mono ?_); rintro e w2 ⟨r, v, d, rfl, hd1, hd2, hp2, hmd, hmv, hbx2, hs2⟩; have HR2 := Veil.mk (And.intro hp2 (And.intro hbx2 hs2)); have HD := Veil.mk (And.intro hd1 hd2); have HMD := Veil.mk hmd; have HMV := Veil.mk hmv; clear hp2 hbx2 hs2 hd1 hd2 hmd hmv))
  obtain ⟨qb, hqb⟩ : ∃ qb, w2.heap.size = qb := ⟨_, rfl⟩
  obtain ⟨w3, hw3⟩ : ∃ w3, w2.alloc (.cells #[.int .i64 r.1, .int .i64 r.2.1, .string r.2.2] 28) = w3 := ⟨_, rfl⟩
  have bx := Box.new w2 28 #[.int .i64 r.1, .int .i64 r.2.1, .string r.2.2]
  have bl : Below w2.heap.size w2 (w2.alloc (.cells #[.int .i64 r.1, .int .i64 r.2.1, .string r.2.2] 28)) := (Below.refl _ _).alloc (Nat.le_refl _) _
  rw [hw3] at bx bl ⊢
  rw [hqb] at bx ⊢
  have HB3 := Veil.mk (And.intro bl bx)
  clear c0 c1 c2 hqb hw3 bx bl HK
  have d0 : w3.cell? ⟨qb, 0, none⟩ = some (.int .i64 r.1) := HB3.out.2.at_ 0
  have d1 : w3.cell? ⟨qb, 1, none⟩ = some (.int .i64 r.2.1) := HB3.out.2.at_ 1
  have d2 : w3.cell? ⟨qb, 2, none⟩ = some (.string r.2.2) := HB3.out.2.at_ 2
  obtain ⟨dv, hdv⟩ : ∃ dv, tvV d = dv := ⟨_, rfl⟩
  have HTR : Veil (∀ w9, Calls Tryz.prog 22 #[valV dv] w9 fun e w' => e = .returned (.bool d) /\ Below w9.heap.size w9 w') := ⟨fun w9 => by rw [<- hdv]; exact true_v d w9⟩
  rw [hdv] at HMD
  go_upto_region 8 with (go_at_call 21; ((with_reducible refine (HMD.out w3 HB3.out.1).mono ?_); rintro e w4 ⟨rfl, hb4⟩; have HB4 := Veil.mk hb4; clear hb4))
  clear d0 d1 d2
  obtain ⟨db, hdb⟩ : ∃ db, w4.heap.size = db := ⟨_, rfl⟩
  obtain ⟨w5, hw5⟩ : ∃ w5, w4.alloc (.cells #[.int .i64 dv.1, .int .i64 dv.2.1, .string dv.2.2] 28) = w5 := ⟨_, rfl⟩
  have bx := Box.new w4 28 #[.int .i64 dv.1, .int .i64 dv.2.1, .string dv.2.2]
  have bl : Below w4.heap.size w4 (w4.alloc (.cells #[.int .i64 dv.1, .int .i64 dv.2.1, .string dv.2.2] 28)) := (Below.refl _ _).alloc (Nat.le_refl _) _
  rw [hw5] at bx bl ⊢
  rw [hdb] at bx ⊢
  have hb35 := blw2 HB4.out bl
  have HB5 := Veil.mk (And.intro (blw2 HB3.out.1 hb35) (And.intro bx (HB3.out.2.below hb35)))
  clear hdb hw5 bx bl hb35 HMD HB4 HB3 hdv
  have d0 : w5.cell? ⟨qb, 0, none⟩ = some (.int .i64 r.1) := HB5.out.2.2.at_ 0
  have d1 : w5.cell? ⟨qb, 1, none⟩ = some (.int .i64 r.2.1) := HB5.out.2.2.at_ 1
  have d2 : w5.cell? ⟨qb, 2, none⟩ = some (.string r.2.2) := HB5.out.2.2.at_ 2
  go_upto_region 9 with (go_at_call 21; ((with_reducible refine (HMV.out w5 HB5.out.1).mono ?_); rintro e w6 ⟨rfl, hb6⟩; have HB6 := Veil.mk hb6; clear hb6))
  clear d0 d1 d2
  obtain ⟨vb, hvb⟩ : ∃ vb, w6.heap.size = vb := ⟨_, rfl⟩
  obtain ⟨w7, hw7⟩ : ∃ w7, w6.alloc (.cells #[.int .i64 v.1, .int .i64 v.2.1, .string v.2.2] 28) = w7 := ⟨_, rfl⟩
  have bx := Box.new w6 28 #[.int .i64 v.1, .int .i64 v.2.1, .string v.2.2]
  have bl : Below w6.heap.size w6 (w6.alloc (.cells #[.int .i64 v.1, .int .i64 v.2.1, .string v.2.2] 28)) := (Below.refl _ _).alloc (Nat.le_refl _) _
  rw [hw7] at bx bl ⊢
  rw [hvb] at bx ⊢
  have hb57 := blw2 HB6.out bl
  have HB7 := Veil.mk (And.intro (blw2 HB5.out.1 hb57) (And.intro bx (HB5.out.2.1.below hb57)))
  clear hvb hw7 bx bl hb57 HMV HB6 HB5
  have d0 : w7.cell? ⟨db, 0, none⟩ = some (.int .i64 dv.1) := HB7.out.2.2.at_ 0
  have d1 : w7.cell? ⟨db, 1, none⟩ = some (.int .i64 dv.2.1) := HB7.out.2.2.at_ 1
  have d2 : w7.cell? ⟨db, 2, none⟩ = some (.string dv.2.2) := HB7.out.2.2.at_ 2
  rcases Nat.lt_or_ge j vs.length with hj | hj
  ·obtain ⟨rfl, hv⟩ := HD.out.1 hj
   go_upto_region 11 with (go_at_call 22; ((with_reducible refine (HTR.out w7).mono ?_); rintro e w8 ⟨rfl, hb8⟩; have HB8 := Veil.mk hb8; clear hb8))
   clear d0 d1 d2
   have hvb8 := HB7.out.2.1.below HB8.out
   have d0 : w8.cell? ⟨vb, 0, none⟩ = some (.int .i64 v.1) := hvb8.at_ 0
   have d1 : w8.cell? ⟨vb, 1, none⟩ = some (.int .i64 v.2.1) := hvb8.at_ 1
   have d2 : w8.cell? ⟨vb, 2, none⟩ = some (.string v.2.2) := hvb8.at_ 2
   have hrow8 : w8.ownsRow Bo VTy 3 u6 j (flatV (vs.take j)) := own_below (own_stay HAL.out.row (fun b c h1 h2 => HR2.out.2.1 b VTy c (by decide) (.inr (.inr h1)) h2)) (blw2 HB7.out.1 HB8.out)
   have hsz8 : Bo <= w8.heap.size := by have h1 := HAL.out.sz; have h2 := HR2.out.2.2; have h3 := (blw2 HB7.out.1 HB8.out).size; omega
   have hjs : j <= 10000 := by have := HN.out; omega
   go_wp2_with (at_builtin; refine wpList_append_lies _ rfl _ _ 30 rfl Bo VTy iv0 (.agg #[.int .i64 0, .int .i64 0, .string ⟨#[]⟩]) 3 32 Tryz.underlying30 iv1 iv2 iv3 iv4 rfl (by decide) _ _ _ rfl (hrow8.alloc _) ⟨w8.heap.size, 0, none⟩ 1 1 [.int .i64 v.1, .int .i64 v.2.1, .string v.2.2] rfl rfl (news_at _ _ rfl _ _) (by simp [Value.oneCell']) (by decide) (by unfold maxLen; omega) (by omega) (by rw [World.size_alloc]; omega) _ rfl ?_; intro g5 cap5 w9 hown5 hgrow5 hblk5 hg5; refine Hid.out ?_)
   have HNX := Veil.mk (AL.next HS.out HAL.out HE0.out HBo.out.1 HBo.out.2.2 HBo.out.2.1 hv HR2.out.1 HR2.out.2.1 HR2.out.2.2 (blw2 HB7.out.1 HB8.out) hown5 hgrow5 hblk5)
   clear hown5 hgrow5 hblk5 hg5 hrow8 hsz8 d0 d1 d2 hvb8
   refine Lib.hid ?_
   go_wp2
   go_roundw
   case rel => exact ⟨j + 1, by go_num, HNX.out⟩
   case measure => simp [intOf]; omega
  ·have hje : j = vs.length := by have := HAL.out.jl; omega
   obtain ⟨rfl, rfl⟩ := HD.out.2 hje
   go_upto_region 10 with (go_at_call 22; ((with_reducible refine (HTR.out w7).mono ?_); rintro e w8 ⟨rfl, hb8⟩; have HB8 := Veil.mk hb8; clear hb8))
   clear d0 d1 d2
   have hvb8 := HB7.out.2.1.below HB8.out
   have d0 : w8.cell? ⟨vb, 0, none⟩ = some (.int .i64 0) := hvb8.at_ 0
   have d1 : w8.cell? ⟨vb, 1, none⟩ = some (.int .i64 0) := hvb8.at_ 1
   have d2 : w8.cell? ⟨vb, 2, none⟩ = some (.string ⟨#[]⟩) := hvb8.at_ 2
   have HF := Veil.mk (fun n : Nat => AL.fin HS.out HAL.out HBo.out.1 hje HR2.out.1 HR2.out.2.1 HR2.out.2.2 (blw2 (blw2 HB7.out.1 HB8.out) (show Below w8.heap.size w8 (w8.drewN n) from ⟨rfl, rfl, rfl, Nat.le_refl _, fun _ _ => rfl⟩)))
   clear hvb8
   go_quiet (fail)
   go_wp2
   exact bodyPost_ret (v := (.tuple #[u6, .bool true])) (by simp [results, Tryz.results17, go_sem]) rfl ⟨_, rfl, HF.out _⟩
end
end Go.Proofs.YtahkohfppakaiaaGreatDoor
namespace Go.Proofs.YtahkohfppakaiaaGreatDoor
open Go Go.RowKit
theorem signs_le : ∀ (l : List Nat), (Go.Proofs.YtahkohfppakaiaaGreatDoor.W.signs l).length <= l.length
 | [] => by simp [Go.Proofs.YtahkohfppakaiaaGreatDoor.W.signs]
 | [u] => by simp [Go.Proofs.YtahkohfppakaiaaGreatDoor.W.signs]
 | u :: v :: r => by
  unfold Go.Proofs.YtahkohfppakaiaaGreatDoor.W.signs
  split
  ·have := signs_le r; simp; omega
  ·have := signs_le (v :: r); simp at this ⊢; omega
section
variable {w W W' : World} {G : List (Nat × TypeId × Array Value)} {h A m g : Nat} {ts : List TO} {cs : Array Value} {E : Nat -> Prop} {st : Int}
theorem LW.touch (H : LW w G h A m ts g cs st E W) {S : Nat -> Prop} (ht : Touch S W W') (hS : ∀ k, S k -> E k /\ w.heap.size <= k /\ Lab W k VTy) : LW w G h A m ts g cs st E W' := by
 obtain ⟨na, ca, h1, h2, h3, h4, h5⟩ := H.x
 exact ⟨⟨na, ca, h1.touchV ht (fun k hk => ⟨VTy, by decide, (hS k hk).2.2⟩), h2.keep (fun k hk => ht.block k (h2.lt hk).2 (fun e => (h3 k hk).1 (hS k e).1)), h3, h4.touch ht (fun e => h5 (hS g e).1), h5⟩, H.bel.trans (ht.below H.bel.size (fun k hk => (hS k hk).2.1)), H.lo⟩
end
def PS (w : World) (G : List (Nat × TypeId × Array Value)) (h A m g iw o : Nat) (kd : Int) (l : List Nat) (n0 : Nat) (st : Int) (j : Nat) (E : Nat -> Prop) (W : World) : Prop :=
 ∃ ts, ts.length = n0 + j /\ LW w G h A m ts g #[.int .i64 7, .int .i64 0, .string (Go.Proofs.YtahkohfppakaiaaGreatDoor.W.strU l)] (st + (j : Int)) E W /\ ((∃ (i : Nat) (pre : List (List Nat)), LawW ts iw o kd (.slice (some ⟨g, 0, none⟩) 1 1) (i : Int) /\ pre.length = j /\ Go.Proofs.YtahkohfppakaiaaGreatDoor.W.signs l = pre ++ Go.Proofs.YtahkohfppakaiaaGreatDoor.W.signs (l.drop i) /\ i <= l.length) \/ (j = (Go.Proofs.YtahkohfppakaiaaGreatDoor.W.signs l).length + 1 /\ ∃ at_, LawW ts iw o kd (.slice none 0 0) at_))
def PG0 (w : World) (G : List (Nat × TypeId × Array Value)) (h A m g iw o : Nat) (kd : Int) (l : List Nat) (n0 : Nat) (st : Int) (j : Nat) (E : Nat -> Prop) (W : World) : Prop :=
 ∃ ts, ts.length = n0 + j /\ LW w G h A m ts g #[.int .i64 7, .int .i64 0, .string (Go.Proofs.YtahkohfppakaiaaGreatDoor.W.strU l)] (st + (j : Int)) E W /\ ∃ at_, LawW ts iw o kd (.slice none 0 0) at_
abbrev sgV (us : List Nat) : Vt := (7, 0, Go.Proofs.YtahkohfppakaiaaGreatDoor.W.strU us)
section
variable {w : World} {G : List (Nat × TypeId × Array Value)} {h A m g iw o n0 : Nat} {kd st : Int} {l : List Nat}
theorem PS.walk (hkd : kd = 2 \/ kd = 3) (hs0 : 0 <= st) (hs1 : st < 4000000) (hn0 : n0 < 90000) (hU : ∀ u ∈ l, u < 65536) (hlen : l.length <= 1000) :
  AskSt w.heap.size m (9, (iw : Int) + 1, ⟨#[]⟩) ((Go.Proofs.YtahkohfppakaiaaGreatDoor.W.signs l).map sgV) (PS w G h A m g iw o kd l n0 st) := by
 have hsl := signs_le l
 refine ⟨fun H hb => ?_, fun H hE => ?_, fun H ht hS => ?_, fun {j E W} H hj hE => ?_⟩
 ·obtain ⟨ts, a, b, c⟩ := H
  exact ⟨ts, a, b.on hb, c⟩
 ·obtain ⟨ts, a, b, c⟩ := H
  exact ⟨ts, a, b.excl hE, c⟩
 ·obtain ⟨ts, a, b, c⟩ := H
  exact ⟨ts, a, b.touch ht hS, c⟩
 ·obtain ⟨ts, hl, hw, hL⟩ := H
  rw [List.length_map] at hj
  have hst : st + ((j + 1 : Nat) : Int) = st + (j : Int) + 1 := by omega
  rcases hL with ⟨i, pre, L, hp, hs, hi⟩ | ⟨hj2, -⟩
  ·rcases Nat.lt_or_ge i l.length with hi2 | hi2
   ·obtain ⟨us, i2, e1, e2, e3, key⟩ := hw.round hkd hE (by omega) (by omega) (by omega) L hU (by omega) hi2
    refine key.mono ?_
    rintro e w' ⟨he, ⟨ts', ob, pv, F, hl2, hw2, hlw2⟩, hbx, hs2⟩
    have hlt : j < (Go.Proofs.YtahkohfppakaiaaGreatDoor.W.signs l).length := by rw [hs, List.length_append, e1, List.length_cons]; omega
    have hv : ((Go.Proofs.YtahkohfppakaiaaGreatDoor.W.signs l).map sgV)[j]? = some (sgV us) := by
     rw [List.getElem?_map, hs, List.getElem?_append_right (by omega), hp, Nat.sub_self, e1]
     rfl
    refine ⟨_, sgV us, false, he, fun _ => ⟨rfl, hv⟩, fun h9 => by rw [List.length_map] at h9; omega, ⟨_, ?_, ?_, .inl ⟨i2, pre ++ [us], hw2, ?_, ?_, e3⟩⟩, fun w9 hb9 => ?_, fun w9 hb9 => ?_, hbx, hs2⟩
    ·rw [List.length_append, hl2, hl]
     rfl
    ·rw [hst]
     exact hlw2
    ·rw [List.length_append, hp]
     rfl
    ·rw [hs, e1, List.append_assoc]
     rfl
    ·exact (hlw2.on hb9).done hw2 hl2 (by omega)
    ·exact (hlw2.on hb9).value hw2 hl2 (by omega)
   ·have key := hw.round_end hkd hE (by omega) (by omega) (by omega) L (by omega) (by omega)
    refine key.mono ?_
    rintro e w' ⟨he, ⟨ts', ob, pv, F, hl2, hw2, hlw2⟩, hbx, hs2⟩
    have hje : j = (Go.Proofs.YtahkohfppakaiaaGreatDoor.W.signs l).length := by
     have e1 : l.drop i = [] := List.drop_eq_nil_of_le hi2
     rw [e1] at hs
     rw [hs]
     simp [Go.Proofs.YtahkohfppakaiaaGreatDoor.W.signs, hp]
    refine ⟨_, zV, true, he, fun h9 => by rw [List.length_map] at h9; omega, fun _ => ⟨rfl, rfl⟩, ⟨_, ?_, ?_, .inr ⟨by omega, _, hw2⟩⟩, fun w9 hb9 => ?_, fun w9 hb9 => ?_, hbx, hs2⟩
    ·rw [List.length_append, hl2, hl]
     rfl
    ·rw [hst]
     exact hlw2
    ·exact (hlw2.on hb9).done hw2 hl2 (by omega)
    ·exact (hlw2.on hb9).value hw2 hl2 (by omega)
  ·omega
theorem PG0.walk (hkd : kd = 2 \/ kd = 3) (hs0 : 0 <= st) (hs1 : st < 4100000) (hn0 : n0 < 95000) :
  AskSt w.heap.size m (9, (iw : Int) + 1, ⟨#[]⟩) [] (PG0 w G h A m g iw o kd l n0 st) := by
 refine ⟨fun H hb => ?_, fun H hE => ?_, fun H ht hS => ?_, fun {j E W} H hj hE => ?_⟩
 ·obtain ⟨ts, a, b, c⟩ := H
  exact ⟨ts, a, b.on hb, c⟩
 ·obtain ⟨ts, a, b, c⟩ := H
  exact ⟨ts, a, b.excl hE, c⟩
 ·obtain ⟨ts, a, b, c⟩ := H
  exact ⟨ts, a, b.touch ht hS, c⟩
 ·obtain ⟨ts, hl, hw, at_, L⟩ := H
  have hj0 : j = 0 := Nat.le_zero.1 hj
  have hst : st + ((j + 1 : Nat) : Int) = st + (j : Int) + 1 := by omega
  have key := hw.round_gone hkd hE (by omega) (by omega) (by omega) L
  refine key.mono ?_
  rintro e w' ⟨he, ⟨ts', ob, pv, F, hl2, hw2, hlw2⟩, hbx, hs2⟩
  refine ⟨_, zV, true, he, fun h9 => by simp at h9, fun _ => ⟨rfl, rfl⟩, ⟨_, ?_, ?_, _, hw2⟩, fun w9 hb9 => ?_, fun w9 hb9 => ?_, hbx, hs2⟩
  ·rw [List.length_append, hl2, hl]
   rfl
  ·rw [hst]
   exact hlw2
  ·exact (hlw2.on hb9).done hw2 hl2 (by omega)
  ·exact (hlw2.on hb9).value hw2 hl2 (by omega)
end
end Go.Proofs.YtahkohfppakaiaaGreatDoor
namespace Go.Proofs.YtahkohfppakaiaaGreatDoor.W
open Go Go.RowKit
attribute [local go_sem] Oper.semAt_some
def numC (l : List Nat) : List Value := l.map (fun (u : Nat) => Value.int .i64 (u : Int))
theorem numC_append (a b : List Nat) : numC (a ++ b) = numC a ++ numC b := by simp [numC]
theorem Tryz.info3 : (Tryz.prog.info? 3).map (fun i => (i.zero, i.size, i.bytes)) = some (some (.int .i64 0), 1, 8) := by kernel_rfl
def Nums (kd : IntKind) (w : World) (a : Option Addr) (n : Nat) (l : List Nat) : Prop := l.length = n /\ (0 < n -> ∃ b o, a = some ⟨b, o, none⟩ /\ b < w.heap.size /\ ∀ i, i < n -> w.cell? ⟨b, o + i, none⟩ = some (.int kd ((l[i]?.getD 0 : Nat) : Int)))
theorem Nums.on {kd : IntKind} {w w1 : World} {a : Option Addr} {n : Nat} {l : List Nat} (h : Nums kd w a n l) (hb : Below w.heap.size w w1) : Nums kd w1 a n l :=
 ⟨h.1, fun hn => by
  obtain ⟨b, o, e, hlt, hc⟩ := h.2 hn
  exact ⟨b, o, e, by have := hb.size; omega, fun i hi => by rw [hb.cell (p := ⟨b, o + i, none⟩) hlt]; exact hc i hi⟩⟩
theorem own_drew {w : World} {base : Nat} {e : TypeId} {size : Nat} {v : Value} {n : Nat} {xs : List Value} (h : w.ownsRow base e size v n xs) : w.drew.ownsRow base e size v n xs := h
theorem cells_drew {w : World} {a : Addr} {cs : List Value} (h : ∀ j u, cs[j]? = some u -> w.cell? (a.add j) = some u) : ∀ j u, cs[j]? = some u -> w.drew.cell? (a.add j) = some u := h
set_option maxRecDepth 1000000 in
set_option maxHeartbeats 2000000 in
theorem str_any (a : Option Addr) (n cap : Nat) (l : List Nat) (hn : n <= 1000000) (hlt : ∀ u ∈ l, u < 65536) (w : World) (h : Nums .i64 w a n l) :
  Calls Tryz.prog 16 #[.slice a n cap] w fun e w' => e = .returned (.string ⟨(l.flatMap u2).toArray⟩) /\ Below w.heap.size w w' := by
 obtain ⟨i0, hi, hz0, hz1, hz2⟩ := info_parts Tryz.info5
 obtain ⟨w1, hr, hown1, hg1⟩ := run_make_own (P := Tryz.prog) w w.heap.size 106 5 i0 (.int .u8 0) 1 Tryz.underlying106 hi hz0 hz1 .i64 .i64 (2 * n) (by rw [hz2]; omega) (by unfold maxLen; omega) (Nat.le_refl _)
 rw [show ((2 * n : Nat) : Int) = 2 * (n : Int) by omega] at hr
 have hb1 : Below w.heap.size w w1 := (Below.refl _ _).grown hg1 (Nat.le_refl _) (fun k h => by cases h)
 have HN := Lib.hid h
 have HLT := Lib.hid hlt
 clear h hlt hg1
 go_enter Tryz.func16, Tryz.ntmps16
 go_wp2
 go_loopw [3, 4] (fun v i wr => ∃ k : Nat, k <= n /\ i = .int .i64 (k : Int) /\ wr.ownsRow w.heap.size 5 1 v ((l.take k).flatMap u2).length (Lib.byteCells ((l.take k).flatMap u2)) /\ Below w.heap.size w wr) (fun _ i _ => n - (intOf i).toNat)
 case atStart => exact ⟨0, by omega, rfl, hown1, hb1⟩
 case round =>
  obtain ⟨k, hk, rfl, hown, hbw⟩ := hrel
  clear hr hown1 hb1
  by_cases hp : k < n
  ·obtain ⟨b, o, rfl, hbl, hc⟩ := HN.out.2 (by omega)
   have hll := HN.out.1
   have hcell : wr.cell? ⟨b, o + k, none⟩ = some (.int .i64 ((l[k]?.getD 0 : Nat) : Int)) := by rw [hbw.cell (p := ⟨b, o + k, none⟩) hbl]; exact hc k hp
   have hu : l[k]?.getD 0 < 65536 := by rw [List.getElem?_eq_getElem (by omega)]; exact HLT.out _ (List.getElem_mem _)
   have htk : (l.take (k + 1)).flatMap u2 = (l.take k).flatMap u2 ++ u2 (l[k]?.getD 0) := by
    rw [List.take_add_one, List.flatMap_append, List.getElem?_eq_getElem (by omega)]; simp
   have hlen : ((l.take k).flatMap u2).length <= 2 * k := by
    have : ∀ m : List Nat, (m.flatMap u2).length = 2 * m.length := fun m => by
     induction m with
     | nil => rfl
     | cons x r ih => rw [List.flatMap_cons, List.length_append, ih]; simp [u2]; omega
    rw [this]; have := List.length_take_le k l; omega
   obtain ⟨u, hud⟩ : ∃ u, u = l[k]?.getD 0 := ⟨_, rfl⟩
   rw [<- hud] at hcell hu htk
   obtain ⟨acc, hacc⟩ : ∃ acc, acc = (l.take k).flatMap u2 := ⟨_, rfl⟩
   rw [<- hacc] at hown htk hlen
   have HTK := Lib.hid htk
   have hlti : (k : Int) < (n : Int) := by omega
   have hk0 : (0 : Int) <= (k : Int) := by omega
   have hw := hbw.size
   clear hud hacc htk hc
   have d1 : IntKind.i64.wrap ((u : Int) / 256) = (u : Int) / 256 := by rw [IntKind.wrap_i64]; omega
   go_wp2
   go_region_law (refine step_append_lies _ rfl (.tmp 15) (.tmp 28) 106 rfl w.heap.size 5 i0 (.int .u8 0) 1 1 Tryz.underlying106 hi hz0 hz1 hz2 rfl (by decide) u3 acc.length (Lib.byteCells acc) (by simp [Act.eval]) (by first | exact (own_drew hown).alloc _ | exact own_drew (hown.alloc _)) ⟨wr.heap.size, 0, none⟩ 2 2 [.int .u8 (IntKind.u8.wrap ((u : Int) / 256)), .int .u8 (IntKind.u8.wrap ((u : Int).tmod 256))] (by simp [Act.eval]) rfl (by first | exact cells_new _ _ _ | exact cells_drew (cells_new _ _ _)) (fun x hx => by simp at hx; rcases hx with rfl | rfl <;> rfl) (by decide) (by unfold maxLen; omega) (by omega) (by simp; omega) _ rfl ?_; intro g cap' w3 hown' hgrow3 hblk hg3)
   all_goals
    have hown3 := hown'
    have e0 : IntKind.u8.wrap ((u : Int) / 256) = (u : Int) / 256 := by rw [IntKind.wrap_u8]; omega
    have e1 : IntKind.u8.wrap ((u : Int).tmod 256) = (u : Int) % 256 := by rw [IntKind.wrap_u8, Int.tmod_eq_emod_of_nonneg (by omega)]; omega
    rw [e0, e1, <- cells_u2 u hu, <- Lib.byteCells_append, <- HTK.out] at hown3
    have e2 : ((l.take (k + 1)).flatMap u2).length = acc.length + 2 := by rw [HTK.out]; simp [u2]
    have hbw3 : Below w.heap.size w w3 := Below.grown (by first | exact hbw.alloc hw _ | exact Below.drew (hbw.alloc hw _)) hgrow3 (by simp; omega) (fun j hj => (hown.lt _ hj).1)
    have E2 := Lib.hid e2
    clear hown' hgrow3 hblk e0 e1 e2
    go_wp2
    go_roundw
    case rel => exact ⟨k + 1, by omega, by go_num, by rw [E2.out]; exact hown3, hbw3⟩
    case measure => simp [intOf]; omega
  ·have hlti : ¬ (k : Int) < (n : Int) := by omega
   have hll := HN.out.1
   have HE : Hid ((l.take k).flatMap u2 = l.flatMap u2) := by show _ = _; rw [List.take_of_length_le (by omega)]
   have hcv := run_string_own (P := Tryz.prog) (w := wr) (src := 106) (dst := 9) (e := 5) Tryz.underlying106 Tryz.underlying5 Tryz.underlying9 hown
   clear hll
   go_wp2
   go_ret
   exact ⟨ret_str HE.out, hbw⟩
theorem own_nums {w : World} {B : Nat} {v : Value} {l : List Nat} (h : w.ownsRow B 3 1 v l.length (numC l)) : ∃ a cap, v = .slice a l.length cap /\ Nums .i64 w a l.length l := by
 rcases h.2 with ⟨rfl, h0⟩ | ⟨g, cap, cur, rfl, hB, hg, -, -, -, -⟩
 ·exact ⟨none, 0, by rw [h0], rfl, fun hn => by omega⟩
 ·refine ⟨some ⟨g, 0, none⟩, cap, rfl, rfl, fun _ => ⟨g, 0, rfl, lt_of_block hg, fun i hi => ?_⟩⟩
  have hx : (numC l)[i]? = some (.int .i64 ((l[i]?.getD 0 : Nat) : Int)) := by
   unfold numC; rw [List.getElem?_map, List.getElem?_eq_getElem hi]; rfl
  have := h.cells (g := g) rfl i _ hx
  have e : (⟨g, 0, none⟩ : Addr).add i = ⟨g, 0 + i, none⟩ := by unfold Addr.add; split <;> simp_all
  rw [e] at this
  exact this
theorem isHi_eq (u : Nat) : isHi u = true ↔ 55296 <= u /\ u <= 56319 := by simp [isHi]
theorem isLo_eq (u : Nat) : isLo u = true ↔ 56320 <= u /\ u <= 57343 := by simp [isLo]
theorem lo_false {u : Nat} (h : u < 56320 \/ 57343 < u) : isLo u = false := by
 rcases hv : isLo u with _ | _
 ·rfl
 ·have := (isLo_eq u).1 hv; omega
theorem hi_false {u : Nat} (h : u < 55296 \/ 56319 < u) : isHi u = false := by
 rcases hv : isHi u with _ | _
 ·rfl
 ·have := (isHi_eq u).1 hv; omega
def SignsAt (B : Nat) (w : World) (xs : List Value) (pre : List (List Nat)) : Prop :=
 xs.length = pre.length /\ ∀ (j : Nat) us, pre[j]? = some us -> ∃ g fr, xs[j]? = some (.slice (some ⟨g, 0, none⟩) us.length us.length) /\ B <= g /\ w.heap[g]? = some (.cells (numC us).toArray 3 fr)
theorem SignsAt.nil (B : Nat) (w : World) : SignsAt B w [] [] := ⟨rfl, fun j us h => by simp at h⟩
theorem SignsAt.snoc {B : Nat} {w : World} {xs : List Value} {pre : List (List Nat)} (h : SignsAt B w xs pre) (us : List Nat) (g : Nat) (fr : Nat × Nat) (hg : B <= g) (hc : w.heap[g]? = some (.cells (numC us).toArray 3 fr)) :
  SignsAt B w (xs ++ [.slice (some ⟨g, 0, none⟩) us.length us.length]) (pre ++ [us]) := by
 refine ⟨by simp [h.1], fun j vs hj => ?_⟩
 by_cases hlt : j < pre.length
 ·rw [List.getElem?_append_left hlt] at hj
  obtain ⟨g', fr', h1, h2, h3⟩ := h.2 j vs hj
  exact ⟨g', fr', by rw [List.getElem?_append_left (by rw [h.1]; exact hlt)]; exact h1, h2, h3⟩
 ·have hjl : j = pre.length := by
   have := (List.getElem?_eq_some_iff.1 hj).1
   simp at this; omega
  subst hjl
  rw [List.getElem?_append_right (Nat.le_refl _), Nat.sub_self] at hj
  simp at hj
  subst hj
  exact ⟨g, fr, by rw [List.getElem?_append_right (by rw [h.1]; exact Nat.le_refl _), h.1, Nat.sub_self]; rfl, hg, hc⟩
theorem SignsAt.grown {B : Nat} {w w' : World} {xs : List Value} {pre : List (List Nat)} (h : SignsAt B w xs pre) {row : Option Nat} (hg : w.grownBy w' row) (hr : ∀ r, row = some r -> ∃ cur fr, w.heap[r]? = some (.cells cur 48 fr)) : SignsAt B w' xs pre := by
 refine ⟨h.1, fun j us hj => ?_⟩
 obtain ⟨g, fr, h1, h2, h3⟩ := h.2 j us hj
 refine ⟨g, fr, h1, h2, ?_⟩
 rw [hg.block g (Array.getElem?_eq_some_iff.1 h3).1 (fun e => ?_)]
 ·exact h3
 ·obtain ⟨cur, fr', hc⟩ := hr g e.symm
  rw [h3] at hc
  injection hc with hc
  injection hc with _ hc _
  exact absurd hc (by decide)
theorem SignsAt.alloc {B : Nat} {w : World} {xs : List Value} {pre : List (List Nat)} (h : SignsAt B w xs pre) (o : Obj) : SignsAt B (w.alloc o) xs pre :=
 h.grown (World.grownBy_alloc w o none) (fun r e => by cases e)
theorem own_block27 {w : World} {B : Nat} {v : Value} {n : Nat} {xs : List Value} (h : w.ownsRow B 48 1 v n xs) : ∀ r, v.ownBlock = some r -> ∃ cur fr, w.heap[r]? = some (.cells cur 48 fr) := fun r hr => by
 rcases h.2 with ⟨rfl, _⟩ | ⟨g, cap, cur, rfl, _, hc, _⟩
 ·cases hr
 ·cases hr; exact ⟨cur, _, hc⟩
theorem Tryz.info27 : (Tryz.prog.info? 48).map (fun i => (i.zero, i.size, i.bytes)) = some (some (.slice none 0 0), 1, 24) := by kernel_rfl
theorem signs_one (l : List Nat) (k : Nat) (hk : k < l.length) (h : (isHi (l[k]?.getD 0) && isLo (l[k + 1]?.getD 0)) = false) : signs (l.drop k) = [l[k]?.getD 0] :: signs (l.drop (k + 1)) := by
 have e : (ptP (l[k]?.getD 0) (l[k + 1]?.getD 0)).2 = 1 := by simp [ptP, h]
 obtain ⟨hs, _⟩ := signs_step l k hk
 rw [e] at hs
 rw [hs, List.drop_eq_getElem_cons hk, List.getElem?_eq_getElem hk]
 rfl
theorem signs_two (l : List Nat) (k : Nat) (hk : k + 1 < l.length) (h : (isHi (l[k]?.getD 0) && isLo (l[k + 1]?.getD 0)) = true) : signs (l.drop k) = [l[k]?.getD 0, l[k + 1]?.getD 0] :: signs (l.drop (k + 2)) := by
 have e : (ptP (l[k]?.getD 0) (l[k + 1]?.getD 0)).2 = 2 := by simp [ptP, h]
 have hk0 : k < l.length := by omega
 obtain ⟨hs, _⟩ := signs_step l k hk0
 rw [e] at hs
 rw [hs, List.drop_eq_getElem_cons hk0, List.drop_eq_getElem_cons hk, List.getElem?_eq_getElem hk, List.getElem?_eq_getElem hk0]
 rfl
theorem cells_new1 (w : World) (o : Obj) (x : Value) (t : TypeId) : ∀ (j : Nat) u, [x][j]? = some u -> ((w.alloc o).alloc (.cells #[x] t)).cell? ((⟨w.heap.size + 1, 0, none⟩ : Addr).add j) = some u := by
 have := cells_new (w.alloc o) [x] t
 rwa [World.size_alloc] at this
theorem block_new1 (w : World) (o o' : Obj) : ((w.alloc o).alloc o').heap[w.heap.size]? = some o := by
 rw [(Below.heap_alloc _ _ _ (by simp))]; exact World.alloc_heap_new w o
def SignsPost (B : Nat) (w : World) (l : List Nat) (e : Ending) (w' : World) : Prop := ∃ v xs, e = .returned v /\ w'.ownsRow B 48 1 v (signs l).length xs /\ SignsAt B w' xs (signs l) /\ Below B w w'
set_option maxRecDepth 1000000 in
set_option maxHeartbeats 4000000 in
theorem refSigns_any (a : Option Addr) (n cap : Nat) (l : List Nat) (hn : n <= 1000000) (hlt : ∀ u ∈ l, u < 65536) (w : World) (h : Nums .i64 w a n l) :
  Calls Tryz.prog 18 #[.slice a n cap] w (SignsPost w.heap.size w l) := by
 obtain ⟨i0, hi, hz0, hz1, hz2⟩ := info_parts Tryz.info27
 have HN := Veil.mk h
 have HLT := Veil.mk hlt
 clear h hlt
 go_enter Tryz.func18, Tryz.ntmps18
 go_wp2
 go_loopw [3, 4] (fun v i wr => ∃ (k : Nat) (pre : List (List Nat)) (xs : List Value), k <= n /\ i = .int .i64 (k : Int) /\ Veil (signs l = pre ++ signs (l.drop k)) /\ wr.ownsRow w.heap.size 48 1 v pre.length xs /\ pre.length <= k /\ SignsAt w.heap.size wr xs pre /\ Below w.heap.size w wr) (fun _ i _ => n - (intOf i).toNat)
 case atStart => exact ⟨0, [], [], by omega, rfl, ⟨rfl⟩, World.ownsRow_nil _ _ _ _, Nat.le_refl _, SignsAt.nil _ _, Below.refl _ _⟩
 case round =>
  obtain ⟨k, pre, xs, hk, rfl, HP, hown, hpl, hsg, hbw⟩ := hrel
  by_cases hp : k < n
  ·obtain ⟨b, o, rfl, hbl, hc⟩ := HN.out.2 (by omega)
   have hll := HN.out.1
   have hcell : wr.cell? ⟨b, o + k, none⟩ = some (.int .i64 ((l[k]?.getD 0 : Nat) : Int)) := by rw [hbw.cell (p := ⟨b, o + k, none⟩) hbl]; exact hc k hp
   have hu : l[k]?.getD 0 < 65536 := by rw [List.getElem?_eq_getElem (by omega)]; exact HLT.out _ (List.getElem_mem _)
   have hone := signs_one l k (by omega)
   have htwo : k + 1 < n -> _ := fun hh => signs_two l k (by omega)
   have hcell2 : k + 1 < n -> wr.cell? ⟨b, o + (k + 1), none⟩ = some (.int .i64 ((l[k + 1]?.getD 0 : Nat) : Int)) := fun hh => by rw [hbw.cell (p := ⟨b, o + (k + 1), none⟩) hbl]; exact hc (k + 1) hh
   have hv0 : ¬ k + 1 < n -> l[k + 1]?.getD 0 = 0 := fun hh => by rw [List.getElem?_eq_none (by omega)]; rfl
   obtain ⟨u, hud⟩ : ∃ u, u = l[k]?.getD 0 := ⟨_, rfl⟩
   obtain ⟨v, hvd⟩ : ∃ v, v = l[k + 1]?.getD 0 := ⟨_, rfl⟩
   rw [<- hud] at hcell hu hone htwo
   rw [<- hvd] at hone htwo hcell2 hv0
   have hlti : (k : Int) < (n : Int) := by omega
   have hk0 : (0 : Int) <= (k : Int) := by omega
   have hw := hbw.size
   clear hud hvd hc hll
   have q1 : IntKind.i64.wrap ((k : Int) + 1) = (k : Int) + 1 := IntWalk.i64_in _ (by omega)
   have q2 : (0 : Int) <= (k : Int) + 1 := by omega
   have q3 : ((k : Int) + 1).toNat = k + 1 := by omega
   by_cases h1 : 55296 <= u
   ·by_cases h2 : u <= 56319
    ·have g1 : (55296 : Int) <= (u : Int) := by omega
     have g2 : (u : Int) <= 56319 := by omega
     have hH : isHi u = true := (isHi_eq u).2 ⟨h1, h2⟩
     by_cases h3 : k + 1 < n
     ·have g3 : (k : Int) + 1 < (n : Int) := by omega
      replace hcell2 := hcell2 h3
      by_cases h4 : 56320 <= v
      ·by_cases h5 : v <= 57343
       ·have g4 : (56320 : Int) <= (v : Int) := by omega
        have g5 : (v : Int) <= 57343 := by omega
        have HS := Veil.mk (htwo h3 (by rw [hH, (isLo_eq v).2 ⟨h4, h5⟩]; rfl))
        clear hone htwo hv0 hH
        go_wp2
        go_region_law (refine step_append_lies _ rfl (.tmp 46) (.tmp 57) 71 rfl w.heap.size 48 i0 (.slice none 0 0) 1 24 Tryz.underlying71 hi hz0 hz1 hz2 rfl (by decide) u3 pre.length xs (by simp [Act.eval]) (by first | exact (((own_drew hown).alloc _).alloc _) | exact own_drew ((hown.alloc _).alloc _)) ⟨wr.heap.size + 1, 0, none⟩ 1 1 [.slice (some ⟨wr.heap.size, 0, none⟩) 2 2] (by simp [Act.eval]) rfl (by first | exact cells_new1 _ _ _ _ | exact cells_drew (cells_new1 _ _ _ _)) (fun x hx => by simp at hx; rcases hx with rfl; rfl) (by decide) (by unfold maxLen; omega) (by omega) (by simp; omega) _ rfl ?_; intro g cap' w3 hown' hgrow3 hblk hg3)
        all_goals
         have hsg2 := (hsg.alloc (.cells #[.int .i64 (u : Int), .int .i64 (v : Int)] 3)).alloc (.cells #[.slice (some ⟨wr.heap.size, 0, none⟩) 2 2] 48) |>.snoc [u, v] wr.heap.size (0, 0) hw (block_new1 _ _ _)
         have hsg3 : SignsAt w.heap.size w3 (xs ++ [.slice (some ⟨wr.heap.size, 0, none⟩) 2 2]) (pre ++ [[u, v]]) := by
          refine SignsAt.grown (hg := hgrow3) (h := ?_) (hr := ?_)
          ·exact hsg2
          ·exact own_block27 ((hown.alloc _).alloc _)
         have hbw3 : Below w.heap.size w w3 := Below.grown (by first | exact ((hbw.alloc hw _).alloc (by simp; omega) _) | exact Below.drew ((hbw.alloc hw _).alloc (by simp; omega) _)) hgrow3 (by simp; omega) (fun j hj => (hown.lt _ hj).1)
         have hown3 : w3.ownsRow w.heap.size 48 1 (.slice (some ⟨g, 0, none⟩) (pre.length + 1) cap') (pre ++ [[u, v]]).length (xs ++ [.slice (some ⟨wr.heap.size, 0, none⟩) 2 2]) := by rw [List.length_append]; exact hown'
         have HQ : Veil (signs l = (pre ++ [[u, v]]) ++ signs (l.drop (k + 2))) := ⟨by rw [HP.out, HS.out, List.append_assoc]; rfl⟩
         have hpl3 : (pre ++ [[u, v]]).length <= k + 2 := by simp; omega
         clear hown' hgrow3 hblk hg3
         go_wp2
         go_roundw
         case rel => exact ⟨k + 2, _, _, by omega, by go_num, HQ, hown3, hpl3, hsg3, hbw3⟩
         case measure => simp [intOf]; omega
       ·have g5 : ¬ (v : Int) <= 57343 := by omega
        have HS := Veil.mk (hone (by rw [hH, Bool.true_and]; exact lo_false (by omega)))
        clear hone htwo
        have g4 : (56320 : Int) <= (v : Int) := by omega
        go_wp2_with (at_builtin; refine wpList_append_own _ rfl _ _ 71 rfl w.heap.size 48 i0 (.slice none 0 0) 1 24 Tryz.underlying71 hi hz0 hz1 hz2 rfl (by decide) _ _ _ rfl ((hown.alloc _).alloc _) ⟨wr.heap.size + 1, 0, none⟩ 1 1 [.slice (some ⟨wr.heap.size, 0, none⟩) 1 1] rfl rfl (cells_new1 _ _ _ _) (fun x hx => by simp at hx; rcases hx with rfl; rfl) (by unfold maxLen; omega) (by omega) (by simp; omega) ?_; intro v' w3 hown' hgrow3 hnil3; refine Hid.out ?_)
        have hsg3 := ((hsg.alloc _).alloc _ |>.snoc [u] wr.heap.size (0, 0) hw (block_new1 _ _ _)).grown hgrow3 (own_block27 ((hown.alloc _).alloc _))
        have hbw3 : Below w.heap.size w w3 := Below.grown ((hbw.alloc hw _).alloc (by simp; omega) _) hgrow3 (by simp; omega) (fun j hj => (hown.lt _ hj).1)
        have hown3 : w3.ownsRow w.heap.size 48 1 v' (pre ++ [[u]]).length (xs ++ [.slice (some ⟨wr.heap.size, 0, none⟩) 1 1]) := by rw [List.length_append]; exact hown'
        have HQ : Veil (signs l = (pre ++ [[u]]) ++ signs (l.drop (k + 1))) := ⟨by rw [HP.out, HS.out, List.append_assoc]; rfl⟩
        have hpl3 : (pre ++ [[u]]).length <= k + 1 := by simp; omega
        clear hown' hgrow3 hnil3 hown hsg
        refine Lib.hid ?_
        go_wp2
        go_roundw
        case rel => exact ⟨k + 1, _, _, by omega, by go_num, HQ, hown3, hpl3, hsg3, hbw3⟩
        case measure => simp [intOf]; omega
      ·have g4 : ¬ (56320 : Int) <= (v : Int) := by omega
       have HS := Veil.mk (hone (by rw [hH, Bool.true_and]; exact lo_false (by omega)))
       clear hone htwo
       clear hH
       go_wp2_with (at_builtin; refine wpList_append_own _ rfl _ _ 71 rfl w.heap.size 48 i0 (.slice none 0 0) 1 24 Tryz.underlying71 hi hz0 hz1 hz2 rfl (by decide) _ _ _ rfl ((hown.alloc _).alloc _) ⟨wr.heap.size + 1, 0, none⟩ 1 1 [.slice (some ⟨wr.heap.size, 0, none⟩) 1 1] rfl rfl (cells_new1 _ _ _ _) (fun x hx => by simp at hx; rcases hx with rfl; rfl) (by unfold maxLen; omega) (by omega) (by simp; omega) ?_; intro v' w3 hown' hgrow3 hnil3; refine Hid.out ?_)
       have hsg3 := ((hsg.alloc _).alloc _ |>.snoc [u] wr.heap.size (0, 0) hw (block_new1 _ _ _)).grown hgrow3 (own_block27 ((hown.alloc _).alloc _))
       have hbw3 : Below w.heap.size w w3 := Below.grown ((hbw.alloc hw _).alloc (by simp; omega) _) hgrow3 (by simp; omega) (fun j hj => (hown.lt _ hj).1)
       have hown3 : w3.ownsRow w.heap.size 48 1 v' (pre ++ [[u]]).length (xs ++ [.slice (some ⟨wr.heap.size, 0, none⟩) 1 1]) := by rw [List.length_append]; exact hown'
       have HQ : Veil (signs l = (pre ++ [[u]]) ++ signs (l.drop (k + 1))) := ⟨by rw [HP.out, HS.out, List.append_assoc]; rfl⟩
       have hpl3 : (pre ++ [[u]]).length <= k + 1 := by simp; omega
       clear hown' hgrow3 hnil3 hown hsg
       refine Lib.hid ?_
       go_wp2
       go_roundw
       case rel => exact ⟨k + 1, _, _, by omega, by go_num, HQ, hown3, hpl3, hsg3, hbw3⟩
       case measure => simp [intOf]; omega
     ·have g3 : ¬ (k : Int) + 1 < (n : Int) := by omega
      have HS := Veil.mk (hone (by rw [hv0 h3, isLo_zero, Bool.and_false]))
      clear hone htwo
      clear hH hcell2
      go_wp2_with (at_builtin; refine wpList_append_own _ rfl _ _ 71 rfl w.heap.size 48 i0 (.slice none 0 0) 1 24 Tryz.underlying71 hi hz0 hz1 hz2 rfl (by decide) _ _ _ rfl ((hown.alloc _).alloc _) ⟨wr.heap.size + 1, 0, none⟩ 1 1 [.slice (some ⟨wr.heap.size, 0, none⟩) 1 1] rfl rfl (cells_new1 _ _ _ _) (fun x hx => by simp at hx; rcases hx with rfl; rfl) (by unfold maxLen; omega) (by omega) (by simp; omega) ?_; intro v' w3 hown' hgrow3 hnil3; refine Hid.out ?_)
      have hsg3 := ((hsg.alloc _).alloc _ |>.snoc [u] wr.heap.size (0, 0) hw (block_new1 _ _ _)).grown hgrow3 (own_block27 ((hown.alloc _).alloc _))
      have hbw3 : Below w.heap.size w w3 := Below.grown ((hbw.alloc hw _).alloc (by simp; omega) _) hgrow3 (by simp; omega) (fun j hj => (hown.lt _ hj).1)
      have hown3 : w3.ownsRow w.heap.size 48 1 v' (pre ++ [[u]]).length (xs ++ [.slice (some ⟨wr.heap.size, 0, none⟩) 1 1]) := by rw [List.length_append]; exact hown'
      have HQ : Veil (signs l = (pre ++ [[u]]) ++ signs (l.drop (k + 1))) := ⟨by rw [HP.out, HS.out, List.append_assoc]; rfl⟩
      have hpl3 : (pre ++ [[u]]).length <= k + 1 := by simp; omega
      clear hown' hgrow3 hnil3 hown hsg
      refine Lib.hid ?_
      go_wp2
      go_roundw
      case rel => exact ⟨k + 1, _, _, by omega, by go_num, HQ, hown3, hpl3, hsg3, hbw3⟩
      case measure => simp [intOf]; omega
    ·have g1 : (55296 : Int) <= (u : Int) := by omega
     have g2 : ¬ (u : Int) <= 56319 := by omega
     have HS := Veil.mk (hone (by rw [hi_false (by omega)]; rfl))
     clear hone htwo
     clear hcell2
     go_wp2_with (at_builtin; refine wpList_append_own _ rfl _ _ 71 rfl w.heap.size 48 i0 (.slice none 0 0) 1 24 Tryz.underlying71 hi hz0 hz1 hz2 rfl (by decide) _ _ _ rfl ((hown.alloc _).alloc _) ⟨wr.heap.size + 1, 0, none⟩ 1 1 [.slice (some ⟨wr.heap.size, 0, none⟩) 1 1] rfl rfl (cells_new1 _ _ _ _) (fun x hx => by simp at hx; rcases hx with rfl; rfl) (by unfold maxLen; omega) (by omega) (by simp; omega) ?_; intro v' w3 hown' hgrow3 hnil3; refine Hid.out ?_)
     have hsg3 := ((hsg.alloc _).alloc _ |>.snoc [u] wr.heap.size (0, 0) hw (block_new1 _ _ _)).grown hgrow3 (own_block27 ((hown.alloc _).alloc _))
     have hbw3 : Below w.heap.size w w3 := Below.grown ((hbw.alloc hw _).alloc (by simp; omega) _) hgrow3 (by simp; omega) (fun j hj => (hown.lt _ hj).1)
     have hown3 : w3.ownsRow w.heap.size 48 1 v' (pre ++ [[u]]).length (xs ++ [.slice (some ⟨wr.heap.size, 0, none⟩) 1 1]) := by rw [List.length_append]; exact hown'
     have HQ : Veil (signs l = (pre ++ [[u]]) ++ signs (l.drop (k + 1))) := ⟨by rw [HP.out, HS.out, List.append_assoc]; rfl⟩
     have hpl3 : (pre ++ [[u]]).length <= k + 1 := by simp; omega
     clear hown' hgrow3 hnil3 hown hsg
     refine Lib.hid ?_
     go_wp2
     go_roundw
     case rel => exact ⟨k + 1, _, _, by omega, by go_num, HQ, hown3, hpl3, hsg3, hbw3⟩
     case measure => simp [intOf]; omega
   ·have g1 : ¬ (55296 : Int) <= (u : Int) := by omega
    have HS := Veil.mk (hone (by rw [hi_false (by omega)]; rfl))
    clear hone htwo
    clear hcell2
    go_wp2_with (at_builtin; refine wpList_append_own _ rfl _ _ 71 rfl w.heap.size 48 i0 (.slice none 0 0) 1 24 Tryz.underlying71 hi hz0 hz1 hz2 rfl (by decide) _ _ _ rfl ((hown.alloc _).alloc _) ⟨wr.heap.size + 1, 0, none⟩ 1 1 [.slice (some ⟨wr.heap.size, 0, none⟩) 1 1] rfl rfl (cells_new1 _ _ _ _) (fun x hx => by simp at hx; rcases hx with rfl; rfl) (by unfold maxLen; omega) (by omega) (by simp; omega) ?_; intro v' w3 hown' hgrow3 hnil3; refine Hid.out ?_)
    have hsg3 := ((hsg.alloc _).alloc _ |>.snoc [u] wr.heap.size (0, 0) hw (block_new1 _ _ _)).grown hgrow3 (own_block27 ((hown.alloc _).alloc _))
    have hbw3 : Below w.heap.size w w3 := Below.grown ((hbw.alloc hw _).alloc (by simp; omega) _) hgrow3 (by simp; omega) (fun j hj => (hown.lt _ hj).1)
    have hown3 : w3.ownsRow w.heap.size 48 1 v' (pre ++ [[u]]).length (xs ++ [.slice (some ⟨wr.heap.size, 0, none⟩) 1 1]) := by rw [List.length_append]; exact hown'
    have HQ : Veil (signs l = (pre ++ [[u]]) ++ signs (l.drop (k + 1))) := ⟨by rw [HP.out, HS.out, List.append_assoc]; rfl⟩
    have hpl3 : (pre ++ [[u]]).length <= k + 1 := by simp; omega
    clear hown' hgrow3 hnil3 hown hsg
    refine Lib.hid ?_
    go_wp2
    go_roundw
    case rel => exact ⟨k + 1, _, _, by omega, by go_num, HQ, hown3, hpl3, hsg3, hbw3⟩
    case measure => simp [intOf]; omega
  ·have hlti : ¬ (k : Int) < (n : Int) := by omega
   have hll := HN.out.1
   have hkl : k = l.length := by omega
   have HE : Veil (signs l = pre) := ⟨by rw [HP.out, hkl, List.drop_length]; simp [signs]⟩
   clear hll hkl
   go_wp2
   go_ret
   exact ⟨_, xs, rfl, by rw [HE.out]; exact hown, by rw [HE.out]; exact hsg, hbw⟩
def RowsAt (lo hi : Nat) (W : World) (v : Value) (S : List (List Nat)) : Prop :=
 ∃ a cap, v = .slice a S.length cap /\ ∀ (j : Nat) us, S[j]? = some us -> ∃ b g, a = some ⟨b, 0, none⟩ /\ lo <= b /\ b < hi /\ lo <= g /\ g < hi /\ W.cell? ⟨b, j, none⟩ = some (.slice (some ⟨g, 0, none⟩) us.length us.length) /\ ∀ i, i < us.length -> W.cell? ⟨g, i, none⟩ = some (.int .i64 ((us[i]?.getD 0 : Nat) : Int))
theorem RowsAt.of {lo : Nat} {w' : World} {v : Value} {S : List (List Nat)} {xs : List Value} (hown : w'.ownsRow lo 48 1 v S.length xs) (hs : SignsAt lo w' xs S) : RowsAt lo w'.heap.size w' v S := by
 rcases hown.2 with ⟨rfl, h0⟩ | ⟨b, cap, cur, rfl, hB, hb, hc, -, -, -⟩
 ·refine ⟨none, 0, by rw [h0], fun j us hj => ?_⟩
  have := (List.getElem?_eq_some_iff.1 hj).1
  omega
 ·refine ⟨_, cap, rfl, fun j us hj => ?_⟩
  obtain ⟨g, fr, h1, h2, h3⟩ := hs.2 j us hj
  refine ⟨b, g, rfl, hB, (Array.getElem?_eq_some_iff.1 hb).1, h2, (Array.getElem?_eq_some_iff.1 h3).1, ?_, fun i hi => ?_⟩
  ·have := hown.cells (g := b) rfl j _ h1
   have e : (⟨b, 0, none⟩ : Addr).add j = ⟨b, j, none⟩ := by unfold Addr.add; split <;> simp_all
   rwa [e] at this
  ·rw [cell_of_row w' g i _ _ _ h3]
   unfold numC; rw [List.getElem?_toArray, List.getElem?_map, List.getElem?_eq_getElem hi]; rfl
def SignsPost2 (B : Nat) (w : World) (S : List (List Nat)) (e : Ending) (w' : World) : Prop := ∃ va vc, e = .returned (.slice va S.length vc) /\ RowsAt B w'.heap.size w' (.slice va S.length vc) S /\ Below B w w'
theorem refSigns_at (a : Option Addr) (n cap : Nat) (l : List Nat) (S : List (List Nat)) (hn : n <= 1000000) (hlt : ∀ u ∈ l, u < 65536) (hS : Veil (signs l = S)) (w : World) (h : Nums .i64 w a n l) :
  Calls Tryz.prog 18 #[.slice a n cap] w (SignsPost2 w.heap.size w S) :=
 (refSigns_any a n cap l hn hlt w h).mono fun e w' ⟨v, xs, he, hown, hsg, hb⟩ => by
  rw [hS.out] at hown hsg
  have hR := RowsAt.of hown hsg
  obtain ⟨va, vc, rfl, -⟩ := id hR
  exact ⟨va, vc, he, hR, hb⟩
theorem RowsAt.nums {lo hi : Nat} {W : World} {v : Value} {S : List (List Nat)} (h : RowsAt lo hi W v S) (hhi : hi <= W.heap.size) (j : Nat) (us : List Nat) (hj : S[j]? = some us) :
  ∃ b g cap, v = .slice (some ⟨b, 0, none⟩) S.length cap /\ W.cell? ⟨b, j, none⟩ = some (.slice (some ⟨g, 0, none⟩) us.length us.length) /\ Nums .i64 W (some ⟨g, 0, none⟩) us.length us := by
 obtain ⟨a, cap, hv, h⟩ := h
 obtain ⟨b, g, h1, h2, h3, h4, h5, h6, h7⟩ := h j us hj
 subst h1
 exact ⟨b, g, cap, hv, h6, rfl, fun _ => ⟨g, 0, rfl, by omega, fun i hi => by rw [Nat.zero_add]; exact h7 i hi⟩⟩
end Go.Proofs.YtahkohfppakaiaaGreatDoor.W
namespace Go.Proofs.YtahkohfppakaiaaGreatDoor
open Go Go.RowKit
attribute [local go_sem] Oper.semAt_some
theorem wanted_nf {ops : Array Oper} {o : Oper} {j s : Nat} {tmps : Array Value} (hg : o.guard = some (j, false)) (hd : (ops[j]?).bind (·.dst) = some s) (ht : tmps[s]? = some (.bool false)) : Region.wanted o (yielded ops tmps) = true := by
 unfold Region.wanted yielded
 rw [hg]
 simp only [hd, Option.bind_some, ht]
 rfl
theorem signs_sub : ∀ (l : List Nat) (us : List Nat), us ∈ Go.Proofs.YtahkohfppakaiaaGreatDoor.W.signs l -> us.length <= 2 /\ ∀ u ∈ us, u ∈ l
 | [], us, h => by simp [Go.Proofs.YtahkohfppakaiaaGreatDoor.W.signs] at h
 | [u], us, h => by simp [Go.Proofs.YtahkohfppakaiaaGreatDoor.W.signs] at h; subst h; simp
 | u :: v :: r, us, h => by
  unfold Go.Proofs.YtahkohfppakaiaaGreatDoor.W.signs at h
  split at h
  ·rcases List.mem_cons.1 h with rfl | h
   ·exact ⟨by simp, fun z hz => by simp at hz ⊢; omega⟩
   ·obtain ⟨h1, h2⟩ := signs_sub r us h
    exact ⟨h1, fun z hz => List.mem_cons_of_mem _ (List.mem_cons_of_mem _ (h2 z hz))⟩
  ·rcases List.mem_cons.1 h with rfl | h
   ·exact ⟨by simp, fun z hz => by simp at hz ⊢; omega⟩
   ·obtain ⟨h1, h2⟩ := signs_sub (v :: r) us h
    exact ⟨h1, fun z hz => List.mem_cons_of_mem _ (h2 z hz)⟩
theorem signs_bound (l : List Nat) (hl : ∀ u ∈ l, u < 65536) (us : List Nat) (h : us ∈ Go.Proofs.YtahkohfppakaiaaGreatDoor.W.signs l) : ∀ u ∈ us, u < 65536 := fun u hu => hl u ((signs_sub l us h).2 u hu)
theorem signs_short (l : List Nat) (us : List Nat) (h : us ∈ Go.Proofs.YtahkohfppakaiaaGreatDoor.W.signs l) : us.length <= 2 := (signs_sub l us h).1
theorem own_ghost {w : World} {B n : Nat} {v : Value} {xs : List Value} (h : w.ownsRow B 3 1 v n xs) : ∃ G : List (Nat × TypeId × Array Value), (∀ q ∈ G, Box w q.1 q.2.1 q.2.2 /\ B <= q.1 /\ q.2.1 = 3) /\ ∀ w', (∀ q ∈ G, Box w' q.1 q.2.1 q.2.2) -> w'.ownsRow B 3 1 v n xs := by
 rcases h.2 with ⟨h1, h2⟩ | ⟨g, cap, cur, e1, e2, e3, e4⟩
 ·exact ⟨[], fun q hq => (by cases hq), fun w' _ => ⟨h.1, .inl ⟨h1, h2⟩⟩⟩
 ·refine ⟨[(g, 3, cur)], fun q hq => ?_, fun w' hG => ⟨h.1, .inr ⟨g, cap, cur, e1, e2, hG _ (List.mem_singleton.2 rfl), e4⟩⟩⟩
  obtain rfl := List.mem_singleton.1 hq
  exact ⟨e3, e2, rfl⟩
theorem nums_of {w : World} {B cap : Nat} {a : Option Addr} {l : List Nat} (h : w.ownsRow B 3 1 (.slice a l.length cap) l.length (Go.Proofs.YtahkohfppakaiaaGreatDoor.W.numC l)) : Go.Proofs.YtahkohfppakaiaaGreatDoor.W.Nums .i64 w a l.length l := by
 obtain ⟨a3, cap3, e, hn⟩ := Go.Proofs.YtahkohfppakaiaaGreatDoor.W.own_nums h
 cases e
 exact hn
theorem MC.on {w w1 w2 : World} {h A m : Nat} {ts : List TO} (H : MC w h A m ts w1) (hb : Below w1.heap.size w1 w2) : MC w h A m ts w2 := ⟨⟨H.s.mp.on hb, Bk.of_below (Nat.le_of_lt (H.s.mp.on hb).mm.alt) (Below.refl _ _), H.s.len, H.s.pl, H.s.p2, H.s.p11, H.s.fn⟩, H.bel.trans (hb.mono H.bel.size), H.lo⟩
theorem PS.box {w w1 : World} {G : List (Nat × TypeId × Array Value)} {h A m g iw o n0 j : Nat} {kd st : Int} {l : List Nat} {E : Nat -> Prop} (H : PS w G h A m g iw o kd l n0 st j E w1) : ∀ q ∈ G, Box w1 q.1 q.2.1 q.2.2 := fun q hq => by
 obtain ⟨ts, -, hw, -⟩ := H
 obtain ⟨na, ca, h1, -⟩ := hw.x
 exact (h1.gi q hq).1
theorem PS.gone {w w1 w2 : World} {G : List (Nat × TypeId × Array Value)} {h A m g iw o n0 : Nat} {kd st : Int} {l : List Nat} {E E' : Nat -> Prop} (H : PS w G h A m g iw o kd l n0 st ((Go.Proofs.YtahkohfppakaiaaGreatDoor.W.signs l).length + 1) E w1) (hb : Below w1.heap.size w1 w2) (hE : ∀ k, E' k -> E k) : PG0 w G h A m g iw o kd l (n0 + ((Go.Proofs.YtahkohfppakaiaaGreatDoor.W.signs l).length + 1)) (st + (((Go.Proofs.YtahkohfppakaiaaGreatDoor.W.signs l).length + 1 : Nat) : Int)) 0 E' w2 := by
 obtain ⟨ts, hl, hw, hL⟩ := H
 refine ⟨ts, hl, ?_, ?_⟩
 ·have := (hw.on hb).excl (fun k hk => .inl (hE k hk))
  rw [show st + (((Go.Proofs.YtahkohfppakaiaaGreatDoor.W.signs l).length + 1 : Nat) : Int) + ((0 : Nat) : Int) = st + (((Go.Proofs.YtahkohfppakaiaaGreatDoor.W.signs l).length + 1 : Nat) : Int) from Int.add_zero _]
  exact this
 ·rcases hL with ⟨i, pre, -, hp, hs, -⟩ | ⟨-, at_, L⟩
  ·have := congrArg List.length hs
   rw [List.length_append] at this
   omega
  ·exact ⟨at_, L⟩
theorem signs_law_long (w : World) (a : Option Addr) (n cap : Nat) (hT : Lib.TabIs Tryz.prog w "strings.asciiSpace" .u8 Lib.asciiSpaceTab) (h5 : 500 < n) :
  Calls Tryz.prog 4 #[.slice a n cap] w fun e w' => e = .returned (.bool true) /\ Below w.heap.size w w' := by
 have HF := Veil.mk (fit_any w hT)
 have h5i : (500 : Int) < (n : Int) := by omega
 clear hT
 go_enter Tryz.func4, Tryz.ntmps4
 go_wp2_with (go_at_call 8; ((with_reducible refine HF.out.mono ?_); rintro e w1 ⟨rfl, hb1⟩; have HB1 := Veil.mk hb1; clear hb1))
 go_ret
 exact ⟨rfl, HB1.out⟩
set_option maxRecDepth 100000 in
set_option maxHeartbeats 8000000 in
theorem signs_law_short (w : World) (a : Option Addr) (cap : Nat) (l : List Nat) (hlt : ∀ u ∈ l, u < 65536) (hN : Go.Proofs.YtahkohfppakaiaaGreatDoor.W.Nums .u16 w a l.length l) (hT : Lib.TabIs Tryz.prog w "strings.asciiSpace" .u8 Lib.asciiSpaceTab) (hlen : l.length <= 500) :
  Calls Tryz.prog 4 #[.slice a l.length cap] w fun e w' => e = .returned (.bool true) /\ Below w.heap.size w w' := by
 have HF := Veil.mk (fit_any w hT)
 have HT := Veil.mk hT
 have HN := Veil.mk hN
 have HLT := Veil.mk hlt
 have HLEN := Veil.mk hlen
 obtain ⟨n, hn⟩ : ∃ n, l.length = n := ⟨_, rfl⟩
 have HNL := Veil.mk hn
 have h5i : ¬ (500 : Int) < (n : Int) := by omega
 have hn5 : n <= 500 := by omega
 obtain ⟨i0, hi, hz0, hz1, hz2⟩ := info_parts Go.Proofs.YtahkohfppakaiaaGreatDoor.W.Tryz.info3
 clear hT hN hlt hlen
 rw [hn]
 clear hn
 go_enter Tryz.func4, Tryz.ntmps4
 go_upto_region 5 with (go_at_call 8; ((with_reducible refine HF.out.mono ?_); rintro e w1 ⟨rfl, hb1⟩; have HB1 := Veil.mk hb1; clear hb1))
 have HM := Veil.mk (machine_any w1 (Lib.tabBelow_of_tabIs HT.out w1 HB1.out))
 clear HF
 go_upto_region 7 with (go_at_call 10; ((with_reducible refine HM.out.mono ?_); rintro e w2 ⟨h, A, m, ts0, rfl, hmc⟩; have HM2 := Veil.mk hmc; clear hmc))
 clear HM HT
 have HBW : Veil (Below w.heap.size w w2) := ⟨HB1.out.trans (HM2.out.bel.mono HB1.out.size)⟩
 go_wp2
 go_loopw [4, 22] (fun v i wr => ∃ k : Nat, k <= n /\ i = .int .i64 (k : Int) /\ wr.ownsRow w2.heap.size 3 1 v k (Go.Proofs.YtahkohfppakaiaaGreatDoor.W.numC (l.take k)) /\ Below w2.heap.size w2 wr) (fun _ i _ => n - (intOf i).toNat)
 case atStart => exact ⟨0, by omega, rfl, World.ownsRow_nil _ _ _ _, Below.refl _ _⟩
 case round =>
  obtain ⟨k, hk, rfl, hown, hbw⟩ := hrel
  by_cases hp : k < n
  ·obtain ⟨b, o, rfl, hbl, hc⟩ := HN.out.2 (by rw [HNL.out]; omega)
   have hll := HNL.out
   have hcell : wr.cell? ⟨b, o + k, none⟩ = some (.int .u16 ((l[k]?.getD 0 : Nat) : Int)) := by rw [(HBW.out.trans (hbw.mono HBW.out.size)).cell (p := ⟨b, o + k, none⟩) hbl]; exact hc k (by omega)
   have hu : l[k]?.getD 0 < 65536 := by rw [List.getElem?_eq_getElem (by omega)]; exact HLT.out _ (List.getElem_mem _)
   have htk : l.take (k + 1) = l.take k ++ [l[k]?.getD 0] := by
    rw [List.take_add_one, List.getElem?_eq_getElem (by omega)]; simp
   obtain ⟨u, hud⟩ : ∃ u, u = l[k]?.getD 0 := ⟨_, rfl⟩
   rw [<- hud] at hcell hu htk
   have HTK := Veil.mk htk
   have hlti : (k : Int) < (n : Int) := by omega
   have hk0 : (0 : Int) <= (k : Int) := by omega
   have hui : (u : Int) < 65536 := by omega
   have hu0 : (0 : Int) <= (u : Int) := by omega
   have hw := hbw.size
   clear hud htk hc hll
   go_wp2_with (at_builtin; refine wpList_append_own _ rfl _ _ 48 rfl w2.heap.size 3 i0 (.int .i64 0) 1 8 Tryz.underlying48 hi hz0 hz1 hz2 rfl (by decide) _ _ _ rfl (hown.alloc _) ⟨wr.heap.size, 0, none⟩ 1 1 [_] rfl rfl (cells_new _ _ _) (fun x hx => by simp at hx; rcases hx with rfl; rfl) (by unfold maxLen; omega) (by omega) (by simp; omega) ?_; intro v' w3 hown' hgrow3 hnil3; refine Hid.out ?_)
   have hown3 : w3.ownsRow w2.heap.size 3 1 v' (k + 1) (Go.Proofs.YtahkohfppakaiaaGreatDoor.W.numC (l.take (k + 1))) := by rw [HTK.out, Go.Proofs.YtahkohfppakaiaaGreatDoor.W.numC_append]; exact hown'
   have hbw3 : Below w2.heap.size w2 w3 := Below.grown (hbw.alloc hw _) hgrow3 (by simp; omega) (fun j hj => (hown.lt _ hj).1)
   clear hown' hgrow3 hnil3
   refine Lib.hid ?_
   go_wp2
   go_roundw
   case rel => exact ⟨k + 1, by omega, by go_num, hown3, hbw3⟩
   case measure => simp [intOf]; omega
  ·have hlti : ¬ (k : Int) < (n : Int) := by omega
   obtain rfl : n = k := by omega
   have hkl := HNL.out
   have hown2 : wr.ownsRow w2.heap.size 3 1 u4 l.length (Go.Proofs.YtahkohfppakaiaaGreatDoor.W.numC l) := by
    rw [List.take_of_length_le (by omega)] at hown
    rw [hkl]
    exact hown
   clear hown
   obtain ⟨G, hG1, hG2⟩ := own_ghost hown2
   obtain ⟨a2, cap2, rfl, hnm⟩ := Go.Proofs.YtahkohfppakaiaaGreatDoor.W.own_nums hown2
   rw [hkl] at hG2 hnm ⊢
   have HST : Veil (Calls Tryz.prog 16 #[.slice a2 n cap2] wr fun e w' => e = .returned (.string (Go.Proofs.YtahkohfppakaiaaGreatDoor.W.strU l)) /\ Below wr.heap.size wr w') := ⟨Go.Proofs.YtahkohfppakaiaaGreatDoor.W.str_any a2 n cap2 l (by omega) HLT.out wr hnm⟩
   obtain ⟨s, hs⟩ : ∃ s, Go.Proofs.YtahkohfppakaiaaGreatDoor.W.strU l = s := ⟨_, rfl⟩
   obtain ⟨fv, hfv⟩ : ∃ fv : Vt, ((9, 38, ⟨#[]⟩) : Vt) = fv := ⟨_, rfl⟩
   rw [hs] at HST
   have HW : Veil (∀ w3, Below wr.heap.size wr w3 -> Calls Tryz.prog 15 #[.pointer (some ⟨m, 0, none⟩), .int .i64 3, valV (7, 0, s)] w3 fun e w' => e = .returned (valV fv) /\ (∃ o g ts1, LawW ts1 37 o 3 (.slice (some ⟨g, 0, none⟩) 1 1) 0 /\ ts1.length = 38 /\ LW w1 G h A m ts1 g #[.int .i64 7, .int .i64 0, .string s] 0 (fun _ => False) w') /\ w3.heap.size <= w'.heap.size) := ⟨fun w3 hb3 => by
    have hb := hbw.trans (hb3.mono hbw.size)
    have := (HM2.out.on hb).walker G (fun q hq => by
     obtain ⟨x1, x2, x3⟩ := hG1 q hq
     have := HM2.out.s.mp.fresh hb (x1.below hb3) x2 (by rw [x3]; decide)
     exact this) (fun _ => False) (fun k hk => hk.elim) 3 (7, 0, s)
    rw [hfv] at this
    exact this.mono fun e w' ⟨e1, e2, _, e4⟩ => ⟨e1, e2, e4⟩⟩
   have HG := Veil.mk (And.intro hG2 (And.intro hs hfv))
   clear hG1 hG2 hnm hown2 hs hfv hbw hkl
   go_upto_region 13 with (first | (go_at_call 16; ((with_reducible refine HST.out.mono ?_); rintro e w3 ⟨rfl, hb3⟩; have HB3 := Veil.mk hb3; clear hb3)) | (go_at_call 15; ((with_reducible refine (HW.out w3 HB3.out).mono ?_); rintro e w4 ⟨rfl, ⟨ob, g, ts1, hl1, hl2, hlw⟩, hs4⟩; have HL4 := Veil.mk (And.intro hl1 (And.intro hl2 (And.intro hlw hs4))); clear hl1 hl2 hlw hs4)))
   obtain ⟨wb, hwb⟩ : ∃ wb, w4.heap.size = wb := ⟨_, rfl⟩
   obtain ⟨w5, hw5⟩ : ∃ w5, w4.alloc (.cells #[.int .i64 fv.1, .int .i64 fv.2.1, .string fv.2.2] 28) = w5 := ⟨_, rfl⟩
   have bx := Box.new w4 28 #[.int .i64 fv.1, .int .i64 fv.2.1, .string fv.2.2]
   have bl : Below w4.heap.size w4 (w4.alloc (.cells #[.int .i64 fv.1, .int .i64 fv.2.1, .string fv.2.2] 28)) := (Below.refl _ _).alloc (Nat.le_refl _) _
   rw [hw5] at bx bl ⊢
   rw [hwb] at bx ⊢
   have hPS : PS w1 G h A m g 37 ob 3 l 38 0 0 (fun k => k = wb) w5 := ⟨ts1, HL4.out.2.1, by
    have := (HL4.out.2.2.1.excl (E' := fun k => k = wb) (fun k hk => .inr (by rw [hk]; omega))).on bl
    rw [<- HG.out.2.1] at this
    exact this, .inl ⟨0, [], HL4.out.1, rfl, rfl, Nat.zero_le _⟩⟩
   have HALL := Veil.mk (all_any (E0 := fun k => k = wb) (PS.walk (.inr rfl) (by decide) (by decide) (by decide) HLT.out (by have := HLEN.out; omega)) hPS (Nat.le_trans HL4.out.2.2.1.bel.size bl.size) (fun k hk => by rw [hk]; exact bx.lt) (by rw [List.length_map]; have := signs_le l; have := HLEN.out; omega))
   rw [show ((9, ((37 : Nat) : Int) + 1, ⟨#[]⟩) : Vt) = fv from HG.out.2.2] at HALL
   have HB5 := Veil.mk bx
   clear hPS hwb hw5 bl bx HL4 HW HST
   obtain ⟨SS, hSS⟩ : ∃ SS, Go.Proofs.YtahkohfppakaiaaGreatDoor.W.signs l = SS := ⟨_, rfl⟩
   have HSS := Veil.mk hSS
   rw [hSS] at HALL
   have hsn : SS.length <= 500 := by have := signs_le l; rw [hSS] at this; have := HLEN.out; omega
   clear hSS
   have c0 : w5.cell? ⟨wb, 0, none⟩ = some (.int .i64 fv.1) := HB5.out.at_ 0
   have c1 : w5.cell? ⟨wb, 1, none⟩ = some (.int .i64 fv.2.1) := HB5.out.at_ 1
   have c2 : w5.cell? ⟨wb, 2, none⟩ = some (.string fv.2.2) := HB5.out.at_ 2
   go_upto_region 14 with (go_at_call 17; ((with_reducible refine HALL.out.mono ?_); rintro e w6 ⟨rv, rfl, hrv, hrb, hps, hbx, hsz⟩; have HR6 := Veil.mk (And.intro hrv (And.intro hrb (And.intro hps (And.intro hbx hsz)))); clear hrv hrb hps hbx hsz))
   clear c0 c1 c2 HALL
   obtain ⟨ao, gcap, hrve, hno, hcell⟩ : ∃ ao gcap, rv = .slice ao SS.length gcap /\ (ao = none -> SS.map sgV = []) /\ ∀ ad, ao = some ad -> ∃ gb, ad = ⟨gb, 0, none⟩ /\ Lab w6 gb VTy /\ ∀ j u, (flatV (SS.map sgV))[j]? = some u -> w6.cell? ⟨gb, j, none⟩ = some u := by
    obtain ⟨ao, gcap, e1, -, e2, e3⟩ := HR6.out.1
    rw [List.length_map] at e1
    exact ⟨ao, gcap, e1, fun e => (e2 e).1, e3⟩
   have hWB6 : Box w6 wb VTy #[.int .i64 fv.1, .int .i64 fv.2.1, .string fv.2.2] := HR6.out.2.2.2.1 wb VTy _ (by decide) rfl HB5.out
   have hps6 := HR6.out.2.2.1
   rw [List.length_map] at hps6
   have hnm6 : Go.Proofs.YtahkohfppakaiaaGreatDoor.W.Nums .i64 w6 a2 n l := by
    have h9 := HG.out.1 w6 (PS.box hps6)
    have e9 := HNL.out
    have h8 := nums_of (l := l) (a := a2) (cap := cap2) (B := w2.heap.size) (w := w6) (by rw [e9]; exact h9)
    rw [e9] at h8
    exact h8
   have HSG := Veil.mk (Go.Proofs.YtahkohfppakaiaaGreatDoor.W.refSigns_at a2 n cap2 l SS (by omega) HLT.out HSS w6 hnm6)
   subst hrve
   have HC6 := Veil.mk (And.intro hno (And.intro hcell (And.intro hWB6 hps6)))
   clear hnm6 hno hcell hWB6 hps6 HR6
   go_upto_region 15 with (go_at_call 18; ((with_reducible refine HSG.out.mono ?_); rintro e w7 ⟨va, vc, rfl, hR, hb7⟩; have HR7 := Veil.mk (And.intro hR hb7); clear hR hb7))
   clear HSG
   obtain ⟨nn, hnn⟩ : ∃ nn, SS.length = nn := ⟨_, rfl⟩
   rw [hnn] at hsn ⊢
   have HNN := Veil.mk hnn
   clear hnn
   go_wp2
   go_loopw [56] (fun iv wr => ∃ k : Nat, k <= nn /\ iv = .int .i64 (k : Int) /\ Below w7.heap.size w7 wr) (fun iv _ => nn - (intOf iv).toNat)
   case atStart => exact ⟨0, by omega, rfl, Below.refl _ _⟩
   case round =>
    obtain ⟨k, hk, rfl, hb9⟩ := hrel
    have hk0 : (0 : Int) <= (k : Int) := by omega
    by_cases hp2 : k < nn
    ·have hlt2 : (k : Int) < (nn : Int) := by omega
     obtain ⟨us, hus⟩ : ∃ us, SS[k]? = some us := ⟨_, List.getElem?_eq_getElem (by have := HNN.out; omega)⟩
     have hum : us ∈ Go.Proofs.YtahkohfppakaiaaGreatDoor.W.signs l := by rw [HSS.out]; exact List.mem_of_getElem? hus
     have hvk : (SS.map sgV)[k]? = some (sgV us) := by
      rw [List.getElem?_map, hus]
      rfl
     obtain ⟨gb, rfl⟩ : ∃ gb, ao = some ⟨gb, 0, none⟩ := by
      cases ao with
      | none =>
       have := HC6.out.1 rfl
       rw [this] at hvk
       cases hvk
      | some ad =>
       obtain ⟨gb, e, -⟩ := HC6.out.2.1 ad rfl
       exact ⟨gb, by rw [e]⟩
     obtain ⟨g9, hgg, hlb, hcs⟩ := HC6.out.2.1 _ rfl
     cases hgg
     obtain ⟨f0, f1, f2⟩ := flatV_at _ k _ hvk
     have hb69 := blw2 HR7.out.2 hb9
     have hc : ∀ j u, (flatV (SS.map sgV))[j]? = some u -> wr.cell? ⟨gb, j, none⟩ = some u := fun j u hj => by rw [cell_blk (hb69.block gb (lab_lt hlb))]; exact hcs j u hj
     have c0 : wr.cell? ⟨gb, k * 3, none⟩ = some (.int .i64 7) := hc _ _ f0
     have c1 : wr.cell? ⟨gb, k * 3 + 1, none⟩ = some (.int .i64 0) := hc _ _ f1
     have c2 : wr.cell? ⟨gb, k * 3 + 2, none⟩ = some (.string (Go.Proofs.YtahkohfppakaiaaGreatDoor.W.strU us)) := hc _ _ f2
     obtain ⟨sb, sg, scap, hve, hsc, hnu⟩ := HR7.out.1.nums (Nat.le_refl _) k us hus
     injection hve with e1 e2 e3
     subst e1 e3
     have hsb : sb < w7.heap.size := World.block_lt_of_cell? w7 _ hsc
     have HSS9 := Veil.mk (And.intro hsb (And.intro hsc (And.intro hnu hum)))
     have HB9 := Veil.mk hb9
     clear f0 f1 f2 hc hcs hlb hb69 e2 hsc hnu hsb hus hvk hb9 hum
     go_upto_region 20 with (fail)
     obtain ⟨vb, hvb⟩ : ∃ vb, wr.heap.size = vb := ⟨_, rfl⟩
     obtain ⟨w10, hw10⟩ : ∃ w10, wr.alloc (.cells #[.int .i64 7, .int .i64 0, .string (Go.Proofs.YtahkohfppakaiaaGreatDoor.W.strU us)] 28) = w10 := ⟨_, rfl⟩
     have bx := Box.new wr 28 #[.int .i64 7, .int .i64 0, .string (Go.Proofs.YtahkohfppakaiaaGreatDoor.W.strU us)]
     have bl : Below wr.heap.size wr (wr.alloc (.cells #[.int .i64 7, .int .i64 0, .string (Go.Proofs.YtahkohfppakaiaaGreatDoor.W.strU us)] 28)) := (Below.refl _ _).alloc (Nat.le_refl _) _
     rw [hw10] at bx bl ⊢
     rw [hvb] at bx ⊢
     obtain ⟨WD, hWD⟩ : ∃ WD, w10.drew = WD := ⟨_, rfl⟩
     have hdr : Below w10.heap.size w10 WD := by rw [<- hWD]; exact (Below.refl _ _).drew
     have HVB := Veil.mk (bx.below hdr)
     have HWDB := Veil.mk (blw2 bl hdr)
     have hb7D := HB9.out.trans (HWDB.out.mono HB9.out.size)
     have HSB : Veil (sb < WD.heap.size /\ WD.cell? ⟨sb, k, none⟩ = some (.slice (some ⟨sg, 0, none⟩) us.length us.length)) := ⟨by have := hb7D.size; have := HSS9.out.1; omega, (hb7D.cell (p := ⟨sb, k, none⟩) HSS9.out.1).trans HSS9.out.2.1⟩
     have HSTR : Veil (∀ w9, Below WD.heap.size WD w9 -> Calls Tryz.prog 16 #[.slice (some ⟨sg, 0, none⟩) us.length us.length] w9 fun e w' => e = .returned (.string (Go.Proofs.YtahkohfppakaiaaGreatDoor.W.strU us)) /\ Below w9.heap.size w9 w') := ⟨fun w9 hb => Go.Proofs.YtahkohfppakaiaaGreatDoor.W.str_any _ _ _ us (by have := signs_short l us HSS9.out.2.2.2; omega) (signs_bound l HLT.out us HSS9.out.2.2.2) w9 (HSS9.out.2.2.1.on (hb7D.trans (hb.mono hb7D.size)))⟩
     have HWD := Veil.mk hWD
     clear hWD hdr bx bl hvb hw10 hb7D c0 c1 c2
     refine wp_region_chain (some (· = .pointer (some ⟨vb, 0, none⟩)) :: some (· = .int .i64 7) :: some (· = (.bool false)) :: some (· = (.bool false)) :: some (· = .pointer (some ⟨vb, 2, none⟩)) :: some (· = (.string (Go.Proofs.YtahkohfppakaiaaGreatDoor.W.strU us))) :: some (· = .slice (some ⟨sb, 0, none⟩) nn vc) :: some (· = .int .i64 (k : Int)) :: some (· = .pointer (some ⟨sb, k, none⟩)) :: some (· = .slice (some ⟨sg, 0, none⟩) us.length us.length) :: some (· = (.string (Go.Proofs.YtahkohfppakaiaaGreatDoor.W.strU us))) :: some (· = (.bool false)) :: some (· = (.bool false)) :: [] : List (Option (Value -> Prop))) (QT WD) [some 61, some 62, some 63, some 64, some 65, some 66, some 67, some 68, some 69, some 70, some 71, some 72, some 73] (curV' _ [some 61, some 62, some 63, some 64, some 65, some 66, some 67, some 68, some 69, some 70, some 71, some 72, some 73]) (by kernel_rfl) rfl rfl (puts_cur _ _) (by rw [HWD.out]; exact QT.start) ?_ (by kernel_rfl) ?_
     ·refine SC rfl (fun bb aa w' us hus ha hI hbs hb0 hbp K hK => ?_) ?_
      ·obtain ⟨u0, u1, u2, u3, u4, u5, u6, u7, u8, u9, u10, u11, u12, rfl⟩ := lenA13 hus
       have HI := Veil.mk hI; clear hI; rw [pin ha]
       go_simp
       exact kSv hK HI hus hbs 0 _ rfl rfl hbp rfl rfl (HI.out.ph.pure 0 _)
      refine SC rfl (fun bb aa w' us hus ha hI hbs hb0 hbp K hK => ?_) ?_
      ·obtain ⟨u0, u1, u2, u3, u4, u5, u6, u7, u8, u9, u10, u11, u12, rfl⟩ := lenA13 hus
       have e0 : u0 = .pointer (some ⟨vb, 0, none⟩) := hI.vl 0 rfl hbp; subst e0
       have hbl := hI.ph.b
       have c0 : w'.cell? ⟨vb, 0, none⟩ = some (.int .i64 7) := (HVB.out.below hbl).at_ 0
       clear hbl
       have HI := Veil.mk hI; clear hI; rw [pin ha]
       go_simp
       exact kSv hK HI hus hbs 1 _ rfl rfl hbp rfl rfl (HI.out.ph.pure 1 _)
      refine SC rfl (fun bb aa w' us hus ha hI hbs hb0 hbp K hK => ?_) ?_
      ·obtain ⟨u0, u1, u2, u3, u4, u5, u6, u7, u8, u9, u10, u11, u12, rfl⟩ := lenA13 hus
       have e1 : u1 = .int .i64 7 := hI.vl 1 rfl hbp; subst e1
       have HI := Veil.mk hI; clear hI; rw [pin ha]
       go_simp
       exact kSv hK HI hus hbs 2 _ rfl rfl hbp rfl rfl (HI.out.ph.pure 2 _)
      refine SC rfl (fun bb aa w' us hus ha hI hbs hb0 hbp K hK => ?_) ?_
      ·obtain ⟨u0, u1, u2, u3, u4, u5, u6, u7, u8, u9, u10, u11, u12, rfl⟩ := lenA13 hus
       have e2 : u2 = (.bool false) := hI.vl 2 rfl hbp; subst e2
       have HI := Veil.mk hI; clear hI; rw [pin ha]
       go_simp
       exact kSv hK HI hus hbs 3 _ rfl rfl hbp rfl rfl (HI.out.ph.pure 3 _)
      refine SG (fun bb aa w' us hus ha hI hbs hb0 hbp K hK => ?_) ?_
      ·obtain ⟨u0, u1, u2, u3, u4, u5, u6, u7, u8, u9, u10, u11, u12, rfl⟩ := lenA13 hus
       have e3 : u3 = (.bool false) := hI.vl 3 rfl hbp; subst e3
       rw [if_pos (show Region.wanted _ _ = true by rw [ha]; exact wanted_nf (j := 3) (s := 64) (by kernel_rfl) (by kernel_rfl) (by kernel_rfl))]
       have HI := Veil.mk hI; clear hI; rw [pin ha]
       go_simp
       exact kSv hK HI hus hbs 4 _ rfl rfl hbp rfl rfl (HI.out.ph.pure 4 _)
      refine SG (fun bb aa w' us hus ha hI hbs hb0 hbp K hK => ?_) ?_
      ·obtain ⟨u0, u1, u2, u3, u4, u5, u6, u7, u8, u9, u10, u11, u12, rfl⟩ := lenA13 hus
       have e4 : u4 = .pointer (some ⟨vb, 2, none⟩) := hI.vl 4 rfl hbp; subst e4
       have e3 : u3 = (.bool false) := hI.vl 3 rfl hbp; subst e3
       rw [if_pos (show Region.wanted _ _ = true by rw [ha]; exact wanted_nf (j := 3) (s := 64) (by kernel_rfl) (by kernel_rfl) (by kernel_rfl))]
       have hbl := hI.ph.b
       have c2 : w'.cell? ⟨vb, 2, none⟩ = some (.string (Go.Proofs.YtahkohfppakaiaaGreatDoor.W.strU us)) := (HVB.out.below hbl).at_ 2
       clear hbl
       have HI := Veil.mk hI; clear hI; rw [pin ha]
       go_simp
       exact kSv hK HI hus hbs 5 _ rfl rfl hbp rfl rfl (HI.out.ph.pure 5 _)
      refine SG (fun bb aa w' us hus ha hI hbs hb0 hbp K hK => ?_) ?_
      ·obtain ⟨u0, u1, u2, u3, u4, u5, u6, u7, u8, u9, u10, u11, u12, rfl⟩ := lenA13 hus
       have e3 : u3 = (.bool false) := hI.vl 3 rfl hbp; subst e3
       rw [if_pos (show Region.wanted _ _ = true by rw [ha]; exact wanted_nf (j := 3) (s := 64) (by kernel_rfl) (by kernel_rfl) (by kernel_rfl))]
       have HI := Veil.mk hI; clear hI; rw [pin ha]
       go_simp
       exact kSv hK HI hus hbs 6 _ rfl rfl hbp rfl rfl (HI.out.ph.pure 6 _)
      refine SG (fun bb aa w' us hus ha hI hbs hb0 hbp K hK => ?_) ?_
      ·obtain ⟨u0, u1, u2, u3, u4, u5, u6, u7, u8, u9, u10, u11, u12, rfl⟩ := lenA13 hus
       have e3 : u3 = (.bool false) := hI.vl 3 rfl hbp; subst e3
       rw [if_pos (show Region.wanted _ _ = true by rw [ha]; exact wanted_nf (j := 3) (s := 64) (by kernel_rfl) (by kernel_rfl) (by kernel_rfl))]
       have HI := Veil.mk hI; clear hI; rw [pin ha]
       go_simp
       exact kSv hK HI hus hbs 7 _ rfl rfl hbp rfl rfl (HI.out.ph.pure 7 _)
      refine SG (fun bb aa w' us hus ha hI hbs hb0 hbp K hK => ?_) ?_
      ·obtain ⟨u0, u1, u2, u3, u4, u5, u6, u7, u8, u9, u10, u11, u12, rfl⟩ := lenA13 hus
       have e6 : u6 = .slice (some ⟨sb, 0, none⟩) nn vc := hI.vl 6 rfl hbp; subst e6
       have e7 : u7 = .int .i64 (k : Int) := hI.vl 7 rfl hbp; subst e7
       have e3 : u3 = (.bool false) := hI.vl 3 rfl hbp; subst e3
       rw [if_pos (show Region.wanted _ _ = true by rw [ha]; exact wanted_nf (j := 3) (s := 64) (by kernel_rfl) (by kernel_rfl) (by kernel_rfl))]
       have HI := Veil.mk hI; clear hI; rw [pin ha]
       go_simp
       exact kSv hK HI hus hbs 8 _ rfl rfl hbp rfl rfl (HI.out.ph.pure 8 _)
      refine SG (fun bb aa w' us hus ha hI hbs hb0 hbp K hK => ?_) ?_
      ·obtain ⟨u0, u1, u2, u3, u4, u5, u6, u7, u8, u9, u10, u11, u12, rfl⟩ := lenA13 hus
       have e8 : u8 = .pointer (some ⟨sb, k, none⟩) := hI.vl 8 rfl hbp; subst e8
       have e3 : u3 = (.bool false) := hI.vl 3 rfl hbp; subst e3
       rw [if_pos (show Region.wanted _ _ = true by rw [ha]; exact wanted_nf (j := 3) (s := 64) (by kernel_rfl) (by kernel_rfl) (by kernel_rfl))]
       have hbl := hI.ph.b
       have c9 : w'.cell? ⟨sb, k, none⟩ = some (.slice (some ⟨sg, 0, none⟩) us.length us.length) := (hbl.cell (p := ⟨sb, k, none⟩) HSB.out.1).trans HSB.out.2
       clear hbl
       have HI := Veil.mk hI; clear hI; rw [pin ha]
       go_simp
       exact kSv hK HI hus hbs 9 _ rfl rfl hbp rfl rfl (HI.out.ph.pure 9 _)
      refine SG (fun bb aa w' us hus ha hI hbs hb0 hbp K hK => ?_) ?_
      ·obtain ⟨u0, u1, u2, u3, u4, u5, u6, u7, u8, u9, u10, u11, u12, rfl⟩ := lenA13 hus
       have e9 : u9 = .slice (some ⟨sg, 0, none⟩) us.length us.length := hI.vl 9 rfl hbp; subst e9
       have e3 : u3 = (.bool false) := hI.vl 3 rfl hbp; subst e3
       rw [if_pos (show Region.wanted _ _ = true by rw [ha]; exact wanted_nf (j := 3) (s := 64) (by kernel_rfl) (by kernel_rfl) (by kernel_rfl))]
       have HST := Veil.mk (HSTR.out w' hI.ph.b)
       have HI := Veil.mk hI; clear hI; rw [pin ha]
       go_simp
       go_at_call 16
       refine (HST.out).mono ?_
       rintro e9 w9 ⟨rfl, hm9⟩
       go_simp
       exact kSv hK HI hus hbs 10 _ rfl rfl hbp rfl rfl (HI.out.ph.quiet 10 _ hm9)
      refine SG (fun bb aa w' us hus ha hI hbs hb0 hbp K hK => ?_) ?_
      ·obtain ⟨u0, u1, u2, u3, u4, u5, u6, u7, u8, u9, u10, u11, u12, rfl⟩ := lenA13 hus
       have e5 : u5 = (.string (Go.Proofs.YtahkohfppakaiaaGreatDoor.W.strU us)) := hI.vl 5 rfl hbp; subst e5
       have e10 : u10 = (.string (Go.Proofs.YtahkohfppakaiaaGreatDoor.W.strU us)) := hI.vl 10 rfl hbp; subst e10
       have e3 : u3 = (.bool false) := hI.vl 3 rfl hbp; subst e3
       rw [if_pos (show Region.wanted _ _ = true by rw [ha]; exact wanted_nf (j := 3) (s := 64) (by kernel_rfl) (by kernel_rfl) (by kernel_rfl))]
       have HI := Veil.mk hI; clear hI; rw [pin ha]
       go_simp
       exact kSv hK HI hus hbs 11 _ rfl rfl hbp rfl rfl (HI.out.ph.pure 11 _)
      refine SC rfl (fun bb aa w' us hus ha hI hbs hb0 hbp K hK => ?_) ?_
      ·obtain ⟨u0, u1, u2, u3, u4, u5, u6, u7, u8, u9, u10, u11, u12, rfl⟩ := lenA13 hus
       have e3 : u3 = (.bool false) := hI.vl 3 rfl hbp; subst e3
       have e11 : u11 = (.bool false) := hI.vl 11 rfl hbp; subst e11
       have HI := Veil.mk hI; clear hI; rw [pin ha]
       go_simp
       exact kSv hK HI hus hbs 12 _ rfl rfl hbp rfl rfl (HI.out.ph.pure 12 _)
      exact Steps.nil
     ·intro us wE hus dd hD2 hJ
      obtain ⟨p0, p1, p2, p3, p4, p5, p6, p7, p8, p9, p10, p11, p12, rfl⟩ := lenA13 hus
      have hph := hJ.ph
      have e0 : p0 = .pointer (some ⟨vb, 0, none⟩) := hJ.ve 0 rfl rfl hD2; subst e0
      have e1 : p1 = .int .i64 7 := hJ.ve 1 rfl rfl hD2; subst e1
      have e2 : p2 = (.bool false) := hJ.ve 2 rfl rfl hD2; subst e2
      have e3 : p3 = (.bool false) := hJ.ve 3 rfl rfl hD2; subst e3
      have e4 : p4 = .pointer (some ⟨vb, 2, none⟩) := hJ.ve 4 rfl rfl hD2; subst e4
      have e5 : p5 = (.string (Go.Proofs.YtahkohfppakaiaaGreatDoor.W.strU us)) := hJ.ve 5 rfl rfl hD2; subst e5
      have e6 : p6 = .slice (some ⟨sb, 0, none⟩) nn vc := hJ.ve 6 rfl rfl hD2; subst e6
      have e7 : p7 = .int .i64 (k : Int) := hJ.ve 7 rfl rfl hD2; subst e7
      have e8 : p8 = .pointer (some ⟨sb, k, none⟩) := hJ.ve 8 rfl rfl hD2; subst e8
      have e9 : p9 = .slice (some ⟨sg, 0, none⟩) us.length us.length := hJ.ve 9 rfl rfl hD2; subst e9
      have e10 : p10 = (.string (Go.Proofs.YtahkohfppakaiaaGreatDoor.W.strU us)) := hJ.ve 10 rfl rfl hD2; subst e10
      have e11 : p11 = (.bool false) := hJ.ve 11 rfl rfl hD2; subst e11
      have e12 : p12 = (.bool false) := hJ.ve 12 rfl rfl hD2; subst e12
      clear hJ
      have HQ := Veil.mk hph.b
      clear hph hD2
      simp only [puts, setAll, List.setIfInBounds_toArray, List.set_cons_zero, List.set_cons_succ]
      go_wp2
      go_roundw
      case rel => exact ⟨k + 1, by omega, by go_num, HB9.out.trans ((HWDB.out.trans (HQ.out.mono HWDB.out.size)).mono HB9.out.size)⟩
      case measure => simp [intOf]; omega
    ·have hlt2 : ¬ (k : Int) < (nn : Int) := by omega
     have hb69 := blw2 HR7.out.2 hb9
     have hps6 := HC6.out.2.2.2
     rw [<- HSS.out] at hps6
     have hpg := PS.gone hps6 hb69 (E' := fun k => k = wb) (fun k hk => .inl hk)
     have hwb9 := HC6.out.2.2.1.below hb69
     have hs9 := signs_le l
     have hln := HLEN.out
     have HALL := Veil.mk (all_any (E0 := fun k => k = wb) (PG0.walk (.inr rfl) (by omega) (by omega) (by omega)) hpg (by
      obtain ⟨tt, -, hw, -⟩ := hpg
      exact hw.bel.size) (fun k hk => by rw [hk]; exact hwb9.lt) (Nat.zero_le _))
     rw [show ((9, ((37 : Nat) : Int) + 1, ⟨#[]⟩) : Vt) = fv from HG.out.2.2] at HALL
     have c0 : wr.cell? ⟨wb, 0, none⟩ = some (.int .i64 fv.1) := hwb9.at_ 0
     have c1 : wr.cell? ⟨wb, 1, none⟩ = some (.int .i64 fv.2.1) := hwb9.at_ 1
     have c2 : wr.cell? ⟨wb, 2, none⟩ = some (.string fv.2.2) := hwb9.at_ 2
     clear hb69 hps6 hpg hwb9 hs9 hln
     go_upto_region 24 with (go_at_call 17; ((with_reducible refine HALL.out.mono ?_); rintro e w11 ⟨rv2, rfl, hrv2, -, hps2, -, -⟩; have HR11 := Veil.mk (And.intro hrv2 hps2); clear hrv2 hps2))
     obtain ⟨ao2, gc2, hr2⟩ : ∃ ao2 gc2, rv2 = .slice ao2 0 gc2 := by
      obtain ⟨ao2, gc2, e1, -⟩ := HR11.out.1
      exact ⟨ao2, gc2, e1⟩
     subst hr2
     have HFIN : Veil (Below w.heap.size w w11) := ⟨by
      obtain ⟨tt, -, hw, -⟩ := HR11.out.2
      exact HB1.out.trans (hw.bel.mono HB1.out.size)⟩
     clear HR11 c0 c1 c2
     go_wp2
     go_ret
     exact ⟨rfl, HFIN.out⟩
theorem signs_law (w : World) (a : Option Addr) (n cap : Nat) (l : List Nat) (hlt : ∀ u ∈ l, u < 65536) (hN : Go.Proofs.YtahkohfppakaiaaGreatDoor.W.Nums .u16 w a n l) (hT : Lib.TabIs Tryz.prog w "strings.asciiSpace" .u8 Lib.asciiSpaceTab) :
  Calls Tryz.prog 4 #[.slice a n cap] w fun e w' => e = .returned (.bool true) /\ Below w.heap.size w w' := by
 by_cases h5 : 500 < n
 ·exact signs_law_long w a n cap hT h5
 ·have h9 : l.length = n := hN.1
  subst h9
  exact signs_law_short w a cap l hlt hN hT (by omega)
end Go.Proofs.YtahkohfppakaiaaGreatDoor
