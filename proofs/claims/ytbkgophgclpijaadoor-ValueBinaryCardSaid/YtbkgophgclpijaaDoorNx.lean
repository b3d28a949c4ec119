/- ValueBinary holds: for every pair of seeds and every number of an operator it returns true; no condition beyond the row (the listed tables lie as the program lays them). -/
import Derived.Test.YtbkgophgclpijaaDoorNa
import Derived.Test.YtbkgophgclpijaaDoorNi
import Derived.Test.YtbkgophgclpijaaDoorNl
import Derived.Test.YtbkgophgclpijaaDoorNn
import Derived.Test.YtbkgophgclpijaaDoorNp
import Derived.Test.YtbkgophgclpijaaDoorIc
import Derived.Test.YtbkgophgclpijaaDoorWf
import Derived.Deep.DeepCutAuto
import Derived.Test.YtbkgophgclpijaaDoorJb
import Derived.Test.YtbkgophgclpijaaDoorTie
import Derived.Test.YtbkgophgclpijaaDoorCards
import Derived.SevenTiedAt
import Derived.ChangeMaps5
namespace Go.Proofs.YtbkgophgclpijaaDoor
open Go Go.RowKit

def opStr : Nat → ByteArray
  | 0 => ⟨#[43]⟩
  | 1 => ⟨#[45]⟩
  | 2 => ⟨#[42]⟩
  | 3 => ⟨#[47]⟩
  | 4 => ⟨#[37]⟩
  | 5 => ⟨#[60]⟩
  | 6 => ⟨#[62]⟩
  | 7 => ⟨#[60, 61]⟩
  | 8 => ⟨#[62, 61]⟩
  | 9 => ⟨#[61, 61, 61]⟩
  | 10 => ⟨#[33, 61, 61]⟩
  | _ => ⟨#[63]⟩
def Both (s : ByteArray) (x y : Vt) : Prop := ∃ R : Vt × Int, (∀ wx, M.Tb wx → Calls Tryd.prog 12 #[.string s, valV x, valV y] wx fun e w' => e = .returned (.tuple #[valV R.1, .int .i64 R.2]) ∧ Below wx.heap.size wx w') ∧
  (∀ wx, M.Tb wx → Calls Tryd.prog 13 #[.string s, valV x, valV y] wx fun e w' => e = .returned (.tuple #[valV R.1, .int .i64 R.2]) ∧ Below wx.heap.size wx w')
theorem both_ord {s : ByteArray} {o : OrdOp} {x y : Vt} (hB : ∀ wx, Calls Tryd.prog 12 #[.string s, valV x, valV y] wx fun e w' => e = .returned (.tuple #[valV (stR o (sgnT x y)).1, .int .i64 (stR o (sgnT x y)).2]) ∧ Below wx.heap.size wx w')
    (h1 : x.1 = 7 ∧ y.1 = 7 → ∀ wx, Calls Tryd.prog 13 #[.string s, valV x, valV y] wx fun e w' => e = .returned (.tuple #[valV (stR o (sgnT x y)).1, .int .i64 (stR o (sgnT x y)).2]) ∧ Below wx.heap.size wx w')
    (h2 : (x.1 == 7) = false → ∀ wx, Calls Tryd.prog 13 #[.string s, valV x, valV y] wx fun e w' => e = .returned (.tuple #[valV (stR o (calcS x y)).1, .int .i64 (stR o (calcS x y)).2]) ∧ Below wx.heap.size wx w')
    (h3 : (x.1 == 7) = true → (y.1 == 7) = false → ∀ wx, Calls Tryd.prog 13 #[.string s, valV x, valV y] wx fun e w' => e = .returned (.tuple #[valV (stR o (calcS x y)).1, .int .i64 (stR o (calcS x y)).2]) ∧ Below wx.heap.size wx w') : Both s x y := by
  refine ⟨stR o (sgnT x y), fun wx _ => hB wx, fun wx _ => ?_⟩
  by_cases h : x.1 = 7 ∧ y.1 = 7
  · exact h1 h wx
  · rw [sgn_calc h]
    by_cases hx : x.1 = 7
    · exact h3 (by simpa using hx) (by have : ¬ y.1 = 7 := fun e => h ⟨hx, e⟩; simpa using this) wx
    · exact h2 (by simpa using hx) wx
theorem both_any (k : Nat) (hk : k < 12) (x y : Vt) (hx : WV x.1 x.2.1 x.2.2) (hy : WV y.1 y.2.1 y.2.2) : Both (opStr k) x y := by
  rcases (show k = 0 ∨ k = 1 ∨ k = 2 ∨ k = 3 ∨ k = 4 ∨ k = 5 ∨ k = 6 ∨ k = 7 ∨ k = 8 ∨ k = 9 ∨ k = 10 ∨ k = 11 by omega) with rfl | rfl | rfl | rfl | rfl | rfl | rfl | rfl | rfl | rfl | rfl | rfl
  · by_cases h : x.1 = 7 ∨ y.1 = 7
    · refine ⟨joinT x y, fun wx hT => binary_join x y hx hy h wx hT, fun wx hT => rbin_join x y hx hy ?_ wx hT⟩
      by_cases h1 : x.1 = 7
      · exact .inl (by simpa using h1)
      · exact .inr ⟨by simpa using h1, by have : y.1 = 7 := h.resolve_left h1; simpa using this⟩
    · exact ⟨calcN (some .add) x y, fun wx _ => binaryN_add x y hx hy h wx, fun wx _ => rbin_add x y hx hy h wx⟩
  · exact ⟨calcN (some .sub) x y, fun wx _ => binaryN_sub x y hx hy wx, fun wx _ => rbin_sub x y hx hy wx⟩
  · exact ⟨calcN (some .mul) x y, fun wx _ => binaryN_mul x y hx hy wx, fun wx _ => rbin_mul x y hx hy wx⟩
  · exact ⟨calcN (some .div) x y, fun wx _ => binaryN_div x y hx hy wx, fun wx _ => rbin_div x y hx hy wx⟩
  · exact ⟨calcN (some .rem) x y, fun wx _ => binaryN_rem x y hx hy wx, fun wx _ => rbin_rem x y hx hy wx⟩
  · exact both_ord (o := .lt) (binary_lt x y hx hy) (fun h wx => rtexts_lt x y hx hy h wx) (fun h wx => rbin_lt_a x y hx hy h wx) (fun h h' wx => rbin_lt_b x y hx hy h h' wx)
  · exact both_ord (o := .gt) (binary_gt x y hx hy) (fun h wx => rtexts_gt x y hx hy h wx) (fun h wx => rbin_gt_a x y hx hy h wx) (fun h h' wx => rbin_gt_b x y hx hy h h' wx)
  · exact both_ord (o := .le) (binary_le x y hx hy) (fun h wx => rtexts_le x y hx hy h wx) (fun h wx => rbin_le_a x y hx hy h wx) (fun h h' wx => rbin_le_b x y hx hy h h' wx)
  · exact both_ord (o := .ge) (binary_ge x y hx hy) (fun h wx => rtexts_ge x y hx hy h wx) (fun h wx => rbin_ge_a x y hx hy h wx) (fun h h' wx => rbin_ge_b x y hx hy h h' wx)
  · exact ⟨(b2 (strictT x y), 0), fun wx _ => binary_eq x y hx hy wx, fun wx _ => rbin_eq x y hx hy wx⟩
  · exact ⟨(b2 (!strictT x y), 0), fun wx _ => binary_ne x y hx hy wx, fun wx _ => rbin_ne x y hx hy wx⟩
  · exact ⟨calcN none x y, fun wx _ => binaryN_q x y hx hy wx, fun wx _ => rbin_q x y hx hy wx⟩
end Go.Proofs.YtbkgophgclpijaaDoor
namespace Go.Proofs.YtbkgophgclpijaaDoor
open Go Go.RowKit

set_option maxRecDepth 1000000 in
set_option maxHeartbeats 8000000 in
theorem binary_law (ka na kb nb : Int) (a b : Option Addr) (la ca lb cb : Nat) (l r : List Nat) (op : Int) (hl : ∀ u ∈ l, u < 65536) (hr : ∀ u ∈ r, u < 65536) (w : World) (h1 : W.Nums .u16 w a la l) (h2 : W.Nums .u16 w b lb r) (hT : M.Tb w) :
    Calls Tryd.prog 3 #[seedV ka na a la ca, seedV kb nb b lb cb, .int .i64 op] w fun e w' => e = .returned (.bool true) ∧ Below w.heap.size w w' := by
  have HT := Veil.mk hT
  clear hT
  obtain ⟨k, hk, hx1, hx2, hx3, hx4⟩ := rem_nat op 12 (by omega)
  rw [show ((12 : Nat) : Int) = 12 from rfl] at hx1 hx2 hx3 hx4
  by_cases ha : 2000 < la
  · have hai : (2000 : Int) < (la : Int) := by omega
    have HX := Veil.mk (And.intro h1 h2)
    clear h1 h2
    obtain ⟨W0, hW0⟩ : ∃ W, W = (w.alloc (.cells #[.int .i64 ka, .int .i64 na, .slice a la ca] 24)).alloc (.cells #[.int .i64 kb, .int .i64 nb, .slice b lb cb] 24) := ⟨_, rfl⟩
    have hB : Below w.heap.size w W0 := by rw [hW0]; exact ((Below.refl _ _).alloc (Nat.le_refl _) _).alloc (by simp) _
    have b1 : Box W0 w.heap.size 24 #[.int .i64 ka, .int .i64 na, .slice a la ca] := by rw [hW0]; exact (Box.new _ _ _).more _
    have b2 : Box W0 (w.heap.size + 1) 24 #[.int .i64 kb, .int .i64 nb, .slice b lb cb] := by
      rw [hW0]
      have := Box.new (w.alloc (.cells #[.int .i64 ka, .int .i64 na, .slice a la ca] 24)) 24 #[.int .i64 kb, .int .i64 nb, .slice b lb cb]
      simpa using this
    have HW := Lib.hid hW0.symm
    clear hW0
    go_enter Tryd.func3, Tryd.ntmps3
    go_upto_region 1 with (fail)
    rw [HW.out]
    go_wp2_with (first | (go_at_call 10; ((with_reducible refine (W.fit_any _).mono ?_); rintro e w1 ⟨rfl, hb1⟩; have sA := b1.on hb1 b1.lt; have sB := b2.on hb1 b2.lt; have c0 : w1.cell? ⟨w.heap.size, 0, none⟩ = some (.int .i64 ka) := sA.at_ 0; have c1 : w1.cell? ⟨w.heap.size, 1, none⟩ = some (.int .i64 na) := sA.at_ 1; have c2 : w1.cell? ⟨w.heap.size, 2, none⟩ = some (.slice a la ca) := sA.at_ 2; have d0 : w1.cell? ⟨w.heap.size + 1, 0, none⟩ = some (.int .i64 kb) := sB.at_ 0; have d1 : w1.cell? ⟨w.heap.size + 1, 1, none⟩ = some (.int .i64 nb) := sB.at_ 1; have d2 : w1.cell? ⟨w.heap.size + 1, 2, none⟩ = some (.slice b lb cb) := sB.at_ 2)))
    go_ret
    exact ⟨rfl, hB.trans (hb1.mono hB.size)⟩
  by_cases hb : 2000 < lb
  · have hai : ¬ (2000 : Int) < (la : Int) := by omega
    have hbi : (2000 : Int) < (lb : Int) := by omega
    clear h1 h2
    obtain ⟨W0, hW0⟩ : ∃ W, W = (w.alloc (.cells #[.int .i64 ka, .int .i64 na, .slice a la ca] 24)).alloc (.cells #[.int .i64 kb, .int .i64 nb, .slice b lb cb] 24) := ⟨_, rfl⟩
    have hB : Below w.heap.size w W0 := by rw [hW0]; exact ((Below.refl _ _).alloc (Nat.le_refl _) _).alloc (by simp) _
    have b1 : Box W0 w.heap.size 24 #[.int .i64 ka, .int .i64 na, .slice a la ca] := by rw [hW0]; exact (Box.new _ _ _).more _
    have b2 : Box W0 (w.heap.size + 1) 24 #[.int .i64 kb, .int .i64 nb, .slice b lb cb] := by
      rw [hW0]
      have := Box.new (w.alloc (.cells #[.int .i64 ka, .int .i64 na, .slice a la ca] 24)) 24 #[.int .i64 kb, .int .i64 nb, .slice b lb cb]
      simpa using this
    have HW := Lib.hid hW0.symm
    clear hW0
    go_enter Tryd.func3, Tryd.ntmps3
    go_upto_region 1 with (fail)
    rw [HW.out]
    go_wp2_with (first | (go_at_call 10; ((with_reducible refine (W.fit_any _).mono ?_); rintro e w1 ⟨rfl, hb1⟩; have sA := b1.on hb1 b1.lt; have sB := b2.on hb1 b2.lt; have c0 : w1.cell? ⟨w.heap.size, 0, none⟩ = some (.int .i64 ka) := sA.at_ 0; have c1 : w1.cell? ⟨w.heap.size, 1, none⟩ = some (.int .i64 na) := sA.at_ 1; have c2 : w1.cell? ⟨w.heap.size, 2, none⟩ = some (.slice a la ca) := sA.at_ 2; have d0 : w1.cell? ⟨w.heap.size + 1, 0, none⟩ = some (.int .i64 kb) := sB.at_ 0; have d1 : w1.cell? ⟨w.heap.size + 1, 1, none⟩ = some (.int .i64 nb) := sB.at_ 1; have d2 : w1.cell? ⟨w.heap.size + 1, 2, none⟩ = some (.slice b lb cb) := sB.at_ 2)))
    go_ret
    exact ⟨rfl, hB.trans (hb1.mono hB.size)⟩
  have hai : ¬ (2000 : Int) < (la : Int) := by omega
  have hbi : ¬ (2000 : Int) < (lb : Int) := by omega
  obtain ⟨W0, hW0⟩ : ∃ W, W = (w.alloc (.cells #[.int .i64 ka, .int .i64 na, .slice a la ca] 24)).alloc (.cells #[.int .i64 kb, .int .i64 nb, .slice b lb cb] 24) := ⟨_, rfl⟩
  have hB : Below w.heap.size w W0 := by rw [hW0]; exact ((Below.refl _ _).alloc (Nat.le_refl _) _).alloc (by simp) _
  have b1 : Box W0 w.heap.size 24 #[.int .i64 ka, .int .i64 na, .slice a la ca] := by rw [hW0]; exact (Box.new _ _ _).more _
  have b2 : Box W0 (w.heap.size + 1) 24 #[.int .i64 kb, .int .i64 nb, .slice b lb cb] := by
    rw [hW0]
    have := Box.new (w.alloc (.cells #[.int .i64 ka, .int .i64 na, .slice a la ca] 24)) 24 #[.int .i64 kb, .int .i64 nb, .slice b lb cb]
    simpa using this
  have HW := Lib.hid hW0.symm
  clear hW0
  have HL := Veil.mk hl
  have HR := Veil.mk hr
  have N1 := Veil.mk h1
  have N2 := Veil.mk h2
  clear hl hr h1 h2 ha hb
  go_enter Tryd.func3, Tryd.ntmps3
  go_upto_region 1 with (fail)
  rw [HW.out]
  go_upto_region 5 with (first | (go_at_call 10; ((with_reducible refine (W.fit_any _).mono ?_); rintro e w1 ⟨rfl, hb1⟩; have sA := b1.on hb1 b1.lt; have sB := b2.on hb1 b2.lt; have c0 : w1.cell? ⟨w.heap.size, 0, none⟩ = some (.int .i64 ka) := sA.at_ 0; have c1 : w1.cell? ⟨w.heap.size, 1, none⟩ = some (.int .i64 na) := sA.at_ 1; have c2 : w1.cell? ⟨w.heap.size, 2, none⟩ = some (.slice a la ca) := sA.at_ 2; have d0 : w1.cell? ⟨w.heap.size + 1, 0, none⟩ = some (.int .i64 kb) := sB.at_ 0; have d1 : w1.cell? ⟨w.heap.size + 1, 1, none⟩ = some (.int .i64 nb) := sB.at_ 1; have d2 : w1.cell? ⟨w.heap.size + 1, 2, none⟩ = some (.slice b lb cb) := sB.at_ 2)))
  have va := Veil.mk (fun wx (h : Below w1.heap.size w1 wx) => seed_val ka na a la ca l (by omega) HL.out wx (((N1.out.on hB).on hb1).on h))
  have vb := Veil.mk (fun wx (h : Below w1.heap.size w1 wx) => seed_val kb nb b lb cb r (by omega) HR.out wx (((N2.out.on hB).on hb1).on h))
  have HS := Veil.mk (And.intro sA sB)
  have HB1 := Veil.mk (hB.trans (hb1.mono hB.size))
  clear sA sB b1 b2 c0 c1 c2 d0 d1 d2 hB hb1 hai hbi
  refine wp_region_pair (seedV ka na a la ca) (seedV kb nb b lb cb) 26 27 28 29 7 8 (by kernel_rfl) rfl rfl ?_ (by kernel_rfl) ?_
  · refine Steps.cons rfl (fun bb aa w' hbs hb0 hbp hI K hK => ?_) ?_
    · obtain ⟨u0, u1, u2, u3, u4, u5, rfl, hI⟩ := hI
      have e0 := (HS.out.1.on hI.1 HS.out.1.lt); have e1 := (HS.out.2.on hI.1 HS.out.2.lt); have c0 : w'.cell? ⟨w.heap.size, 0, none⟩ = some (.int .i64 ka) := e0.at_ 0; have c1 : w'.cell? ⟨w.heap.size, 1, none⟩ = some (.int .i64 na) := e0.at_ 1; have c2 : w'.cell? ⟨w.heap.size, 2, none⟩ = some (.slice a la ca) := e0.at_ 2; have d0 : w'.cell? ⟨w.heap.size + 1, 0, none⟩ = some (.int .i64 kb) := e1.at_ 0; have d1 : w'.cell? ⟨w.heap.size + 1, 1, none⟩ = some (.int .i64 nb) := e1.at_ 1; have d2 : w'.cell? ⟨w.heap.size + 1, 2, none⟩ = some (.slice b lb cb) := e1.at_ 2
      simp only [put6, List.setIfInBounds_toArray, List.set_cons_zero, List.set_cons_succ]
      go_simp
      exact hK _ _ (PInv.mk (PW.load0 hI hbs) (by simp only [put6, List.setIfInBounds_toArray, List.set_cons_zero, List.set_cons_succ]))
    refine Steps.cons rfl (fun bb aa w' hbs hb0 hbp hI K hK => ?_) ?_
    · obtain ⟨u0, u1, u2, u3, u4, u5, rfl, hI⟩ := hI
      have hq := after_of 0 (by kernel_rfl) hbp
      have hu : u0 = (seedV ka na a la ca) := hI.2.1 hq
      subst hu
      have hch := hI.1
      have HI := Veil.mk hI
      clear hI
      simp only [put6, List.setIfInBounds_toArray, List.set_cons_zero, List.set_cons_succ]
      go_simp
      refine (va.out w' hch).mono ?_
      intro e w2 hp
      obtain ⟨k1, n1, s1, wv1, rfl, hb2⟩ := hp
      go_simp
      exact hK _ _ (PInv.mk (PW.call1 HI.out hbs hb0 wv1 hb2) (by simp only [put6, List.setIfInBounds_toArray, List.set_cons_zero, List.set_cons_succ]))
    refine Steps.cons rfl (fun bb aa w' hbs hb0 hbp hI K hK => ?_) ?_
    · obtain ⟨u0, u1, u2, u3, u4, u5, rfl, hI⟩ := hI
      have e0 := (HS.out.1.on hI.1 HS.out.1.lt); have e1 := (HS.out.2.on hI.1 HS.out.2.lt); have c0 : w'.cell? ⟨w.heap.size, 0, none⟩ = some (.int .i64 ka) := e0.at_ 0; have c1 : w'.cell? ⟨w.heap.size, 1, none⟩ = some (.int .i64 na) := e0.at_ 1; have c2 : w'.cell? ⟨w.heap.size, 2, none⟩ = some (.slice a la ca) := e0.at_ 2; have d0 : w'.cell? ⟨w.heap.size + 1, 0, none⟩ = some (.int .i64 kb) := e1.at_ 0; have d1 : w'.cell? ⟨w.heap.size + 1, 1, none⟩ = some (.int .i64 nb) := e1.at_ 1; have d2 : w'.cell? ⟨w.heap.size + 1, 2, none⟩ = some (.slice b lb cb) := e1.at_ 2
      simp only [put6, List.setIfInBounds_toArray, List.set_cons_zero, List.set_cons_succ]
      go_simp
      exact hK _ _ (PInv.mk (PW.load2 hI hbs) (by simp only [put6, List.setIfInBounds_toArray, List.set_cons_zero, List.set_cons_succ]))
    refine Steps.cons rfl (fun bb aa w' hbs hb0 hbp hI K hK => ?_) ?_
    · obtain ⟨u0, u1, u2, u3, u4, u5, rfl, hI⟩ := hI
      have hq := after_of 2 (by kernel_rfl) hbp
      have hu : u2 = (seedV kb nb b lb cb) := hI.2.2.1 hq
      subst hu
      have hch := hI.1
      have HI := Veil.mk hI
      clear hI
      simp only [put6, List.setIfInBounds_toArray, List.set_cons_zero, List.set_cons_succ]
      go_simp
      refine (vb.out w' hch).mono ?_
      intro e w2 hp
      obtain ⟨k1, n1, s1, wv1, rfl, hb2⟩ := hp
      go_simp
      exact hK _ _ (PInv.mk (PW.call3 HI.out hbs hb0 wv1 hb2) (by simp only [put6, List.setIfInBounds_toArray, List.set_cons_zero, List.set_cons_succ]))
    refine Steps.cons rfl (fun bb aa w' hbs hb0 hbp hI K hK => ?_) ?_
    · obtain ⟨u0, u1, u2, u3, u4, u5, rfl, hI⟩ := hI
      have HI := Veil.mk hI
      clear hI
      simp only [put6, List.setIfInBounds_toArray, List.set_cons_zero, List.set_cons_succ]
      go_simp
      exact hK _ _ (PInv.mk (PW.alloc4 HI.out hbs hb0) (by simp only [put6, List.setIfInBounds_toArray, List.set_cons_zero, List.set_cons_succ]))
    refine Steps.cons rfl (fun bb aa w' hbs hb0 hbp hI K hK => ?_) ?_
    · obtain ⟨u0, u1, u2, u3, u4, u5, rfl, hI⟩ := hI
      have HI := Veil.mk hI
      clear hI
      simp only [put6, List.setIfInBounds_toArray, List.set_cons_zero, List.set_cons_succ]
      go_simp
      exact hK _ _ (PInv.mk (PW.alloc5 HI.out hbs hb0) (by simp only [put6, List.setIfInBounds_toArray, List.set_cons_zero, List.set_cons_succ]))
    refine Steps.cons rfl (fun bb aa w' hbs hb0 hbp hI K hK => ?_) ?_
    · obtain ⟨u0, u1, u2, u3, u4, u5, rfl, hI⟩ := hI
      have q1 := after_of 1 (by kernel_rfl) hbp
      have q2 := after_of 4 (by kernel_rfl) hbp
      have hq := PW.at4 hI hbs hb0 q1 q2
      clear hI q1 q2 hbp
      simp only [put6, List.setIfInBounds_toArray, List.set_cons_zero, List.set_cons_succ]
      obtain ⟨g, k, n, s, e1, e2, hx, hJ⟩ := hq
      subst e1
      subst e2
      have x0 : w'.cell? ⟨g, 0, none⟩ = some (.int .i64 0) := hx.at_ 0
      have x1 : w'.cell? ⟨g, 1, none⟩ = some (.int .i64 0) := hx.at_ 1
      have x2 : w'.cell? ⟨g, 2, none⟩ = some (.string ⟨#[]⟩) := hx.at_ 2
      have f0 := hx.free 0
      have f1 := hx.free 1
      have f2 := hx.free 2
      have HJ := Veil.mk hJ
      clear hJ hx
      go_simp
      exact hK _ _ (PInv.mk HJ.out (by simp only [put6, List.setIfInBounds_toArray, List.set_cons_zero, List.set_cons_succ]))
    refine Steps.cons rfl (fun bb aa w' hbs hb0 hbp hI K hK => ?_) ?_
    · obtain ⟨u0, u1, u2, u3, u4, u5, rfl, hI⟩ := hI
      have q1 := after_of 3 (by kernel_rfl) hbp
      have q2 := after_of 5 (by kernel_rfl) hbp
      have hq := PW.at5 hI hbs hb0 q1 q2
      clear hI q1 q2 hbp
      simp only [put6, List.setIfInBounds_toArray, List.set_cons_zero, List.set_cons_succ]
      obtain ⟨g, k, n, s, e1, e2, hx, hJ⟩ := hq
      subst e1
      subst e2
      have x0 : w'.cell? ⟨g, 0, none⟩ = some (.int .i64 0) := hx.at_ 0
      have x1 : w'.cell? ⟨g, 1, none⟩ = some (.int .i64 0) := hx.at_ 1
      have x2 : w'.cell? ⟨g, 2, none⟩ = some (.string ⟨#[]⟩) := hx.at_ 2
      have f0 := hx.free 0
      have f1 := hx.free 1
      have f2 := hx.free 2
      have HJ := Veil.mk hJ
      clear hJ hx
      go_simp
      exact hK _ _ (PInv.mk HJ.out (by simp only [put6, List.setIfInBounds_toArray, List.set_cons_zero, List.set_cons_succ]))
    exact Steps.nil
  intro u0 u2 g5 g6 x y w5 hne hx hy bx by_ hB5 k1 k2
  simp only [put6, List.setIfInBounds_toArray, List.set_cons_zero, List.set_cons_succ]
  have HB5 := Veil.mk (HB1.out.trans (hB5.mono HB1.out.size))
  have HT5 := Veil.mk (HT.out.on HB5.out)
  clear va vb HS HB1 hB5 HL HR N1 N2 HW k1 k2 hne HT
  have BO := Veil.mk (both_any k hk x y hx hy)
  have BX := Veil.mk bx
  have BY := Veil.mk by_
  clear hx hy bx by_
  obtain ⟨xk, xn, xs⟩ := x
  obtain ⟨yk, yn, ys⟩ := y
  go_upto_region 6 with (fail)
  go_cut [9] (fun sa wx => sa = .string (opStr k) ∧ Below w5.heap.size w5 wx)
  case first =>
    rcases (show k = 0 ∨ k = 1 ∨ k = 2 ∨ k = 3 ∨ k = 4 ∨ k = 5 ∨ k = 6 ∨ k = 7 ∨ k = 8 ∨ k = 9 ∨ k = 10 ∨ k = 11 by omega) with rfl | rfl | rfl | rfl | rfl | rfl | rfl | rfl | rfl | rfl | rfl | rfl
    all_goals
      go_wp2
      go_meet
      exact ⟨rfl, (Below.refl _ _).alloc (Nat.le_refl _) _⟩
  case rest =>
  obtain ⟨rfl, hb6⟩ := hcut
  obtain ⟨w6, hw6⟩ : ∃ v, v = wc := ⟨_, rfl⟩
  rw [← hw6] at hb6 ⊢
  clear hw6
  replace BX := Veil.mk (BX.out.on hb6 BX.out.lt)
  replace BY := Veil.mk (BY.out.on hb6 BY.out.lt)
  have HB6 := Veil.mk (HB5.out.trans (hb6.mono HB5.out.size))
  have HT6 := Veil.mk (HT5.out.on hb6)
  clear hb6 HB5 HT5 hx1 hx2 hx3 hx4 hk
  obtain ⟨s, hs⟩ : ∃ s, s = opStr k := ⟨_, rfl⟩
  rw [← hs] at BO ⊢
  clear hs
  obtain ⟨R, c1, c2⟩ := BO.out
  obtain ⟨⟨rk, rn, rs⟩, rt⟩ := R
  simp only at c1 c2
  have C1 := Veil.mk c1
  have C2 := Veil.mk c2
  clear c1 c2 BO
  have p0 : w6.cell? ⟨g5, 0, none⟩ = some (.int .i64 xk) := BX.out.at_ 0
  have p1 : w6.cell? ⟨g5, 1, none⟩ = some (.int .i64 xn) := BX.out.at_ 1
  have p2 : w6.cell? ⟨g5, 2, none⟩ = some (.string xs) := BX.out.at_ 2
  have q0 : w6.cell? ⟨g6, 0, none⟩ = some (.int .i64 yk) := BY.out.at_ 0
  have q1 : w6.cell? ⟨g6, 1, none⟩ = some (.int .i64 yn) := BY.out.at_ 1
  have q2 : w6.cell? ⟨g6, 2, none⟩ = some (.string ys) := BY.out.at_ 2
  go_upto_region 7 with (fail)
  go_cut [10, 11] (fun sa sb wx => ∃ g : Nat, sa = .pointer (some ⟨g, 0, none⟩) ∧ sb = .int .i64 rt ∧ Box wx g 27 #[.int .i64 rk, .int .i64 rn, .string rs] ∧ Below w6.heap.size w6 wx)
  case first =>
    go_wp2_with (first | (go_at_call 12; ((with_reducible refine (C1.out _ HT6.out).mono ?_); rintro e w2 ⟨rfl, hb2⟩)))
    go_meet
    exact ⟨w2.heap.size, rfl, rfl, Box.new _ _ _, hb2.alloc hb2.size _⟩
  case rest =>
  obtain ⟨g10, rfl, rfl, bq, hb⟩ := hcut
  obtain ⟨w7, hw⟩ : ∃ v, v = wc := ⟨_, rfl⟩
  rw [← hw] at bq hb ⊢
  clear hw
  replace BX := Veil.mk (BX.out.on hb BX.out.lt)
  replace BY := Veil.mk (BY.out.on hb BY.out.lt)
  have Q10 := Veil.mk bq
  have HB7 := Veil.mk (HB6.out.trans (hb.mono HB6.out.size))
  have HT7 := Veil.mk (HT6.out.on hb)
  clear bq hb HB6 HT6 C1 p0 p1 p2 q0 q1 q2
  have p0 : w7.cell? ⟨g5, 0, none⟩ = some (.int .i64 xk) := BX.out.at_ 0
  have p1 : w7.cell? ⟨g5, 1, none⟩ = some (.int .i64 xn) := BX.out.at_ 1
  have p2 : w7.cell? ⟨g5, 2, none⟩ = some (.string xs) := BX.out.at_ 2
  have q0 : w7.cell? ⟨g6, 0, none⟩ = some (.int .i64 yk) := BY.out.at_ 0
  have q1 : w7.cell? ⟨g6, 1, none⟩ = some (.int .i64 yn) := BY.out.at_ 1
  have q2 : w7.cell? ⟨g6, 2, none⟩ = some (.string ys) := BY.out.at_ 2
  go_upto_region 8 with (fail)
  go_cut [12, 13] (fun sa sb wx => ∃ g : Nat, sa = .pointer (some ⟨g, 0, none⟩) ∧ sb = .int .i64 rt ∧ Box wx g 27 #[.int .i64 rk, .int .i64 rn, .string rs] ∧ Below w7.heap.size w7 wx)
  case first =>
    go_wp2_with (first | (go_at_call 13; ((with_reducible refine (C2.out _ HT7.out).mono ?_); rintro e w2 ⟨rfl, hb2⟩)))
    go_meet
    exact ⟨w2.heap.size, rfl, rfl, Box.new _ _ _, hb2.alloc hb2.size _⟩
  case rest =>
  obtain ⟨g12, rfl, rfl, bq, hb⟩ := hcut
  obtain ⟨w8, hw⟩ : ∃ v, v = wc := ⟨_, rfl⟩
  rw [← hw] at bq hb ⊢
  clear hw
  replace BX := Veil.mk (BX.out.on hb BX.out.lt)
  replace BY := Veil.mk (BY.out.on hb BY.out.lt)
  replace Q10 := Veil.mk (Q10.out.on hb Q10.out.lt)
  have Q12 := Veil.mk bq
  have HB8 := Veil.mk (HB7.out.trans (hb.mono HB7.out.size))
  have HT8 := Veil.mk (HT7.out.on hb)
  clear bq hb HB7 HT7 C2 p0 p1 p2 q0 q1 q2
  have p0 : w8.cell? ⟨g10, 0, none⟩ = some (.int .i64 rk) := Q10.out.at_ 0
  have p1 : w8.cell? ⟨g10, 1, none⟩ = some (.int .i64 rn) := Q10.out.at_ 1
  have p2 : w8.cell? ⟨g10, 2, none⟩ = some (.string rs) := Q10.out.at_ 2
  have q0 : w8.cell? ⟨g12, 0, none⟩ = some (.int .i64 rk) := Q12.out.at_ 0
  have q1 : w8.cell? ⟨g12, 1, none⟩ = some (.int .i64 rn) := Q12.out.at_ 1
  have q2 : w8.cell? ⟨g12, 2, none⟩ = some (.string rs) := Q12.out.at_ 2
  clear BX BY Q10 Q12 HT8
  by_cases h0 : rt = 0
  · subst h0
    go_wp2
    go_ret
    exact ⟨rfl, HB8.out⟩
  · have h0b : (rt != 0) = true := by simpa using h0
    have h0c : (rt == 0) = false := by simpa using h0
    clear h0
    go_wp2
    go_ret
    exact ⟨rfl, HB8.out⟩
end Go.Proofs.YtbkgophgclpijaaDoor
namespace Go.Proofs.YtbkgophgclpijaaDoor
open Go.ChangeMaps Go.ChangeShapes Go.WideShapes Go.ChangeAt Go.WideMaps Go.WideElems Go.RowKit Go.Deep

section
set_option maxRecDepth 100000 in
theorem valueBinary_lifted (os : Os) (started : os.Started) (H : Type) (enc : TypeId × Value → H) :
    ReturnsInHanded {} Tryd.checked os 3 .any (fun w args => (Rows.valueBinarySpec.pre enc Tryd.prog Tryd.f3 [] false w args ∧ laidMetH Tryd.prog tabs5 w) ∧ sizedMet enc Tryd.prog Tryd.f3 (OpenSpec.ofChange Rows.valueBinarySpec) false w args)
      (Rows.valueBinarySpec.post enc Tryd.prog Tryd.f3 false true false false) := by
  refine returnsInHanded_of_change_and (C := Tryd.checked) (X := fun w _ => laidMetH Tryd.prog tabs5 w) (fun _ _ _ hh h => h.of_heap hh) own started (by kernel_rfl) Tryd.func3
    (ChangeSpec.witness_shaped (enc := enc) (C := Tryd.checked) (os := os) (X := fun w _ => laidMetH Tryd.prog tabs5 w) false (pinLaid os) #[.agg #[.int .i64 0, .int .i64 0, .slice none 0 0], .agg #[.int .i64 0, .int .i64 0, .slice none 0 0], .int .i64 0] 8 rfl (World.shaped_of_RefB (by kernel_rfl) (by kernel_rfl)) (by kernel_rfl) (by kernel_rfl) (by kernel_rfl) (door_met5 os _)) ?_
  intro W base args ds gs before hval0 hW _ _ hL _
  have hval : ∀ (j : Nat) t v, Tryd.f3.params[j]? = some t → args[j]? = some v → Value.okWide Tryd.prog W .any base t v := hval0
  have hW' := hW
  obtain ⟨p, q, hA0, hV, rfl, hfz, hnd⟩ := hW
  have hA : DataW.TrodAll enc Tryd.prog W 0 (fun _ => true) true Tryd.f3.params.toList args.toList ds p := hA0
  rw [Tryd.params3] at hA hval
  obtain ⟨v0, vs0, d0, ds0, p0, q0, hargs, rfl, rfl, h0, r0⟩ := trodAll_cons hA
  obtain ⟨v1, vs1, d1, ds1, p1, q1, rfl, rfl, rfl, h1, r1⟩ := trodAll_cons r0
  obtain ⟨v2, vs2, d2, ds2, p2, q2, rfl, rfl, rfl, h2, r2⟩ := trodAll_cons r1
  obtain ⟨rfl, rfl, rfl⟩ := trodAll_nil r2
  obtain rfl : args = #[v0, v1, v2] := by cases args; simp_all
  obtain ⟨rfl, rfl⟩ := trodVars_none hV
  clear hA0 hval0
  simp only [List.append_nil] at hW'
  obtain ⟨ka, na, a, la, ca, l, rfl, hl, k1⟩ := seed_open (hval 0 24 v0 rfl rfl) h0
  obtain ⟨kb, nb, b, lb, cb, r, rfl, hr, k2⟩ := seed_open (hval 1 24 v1 rfl rfl) h1
  obtain ⟨op, rfl, rfl, rfl, -⟩ := open_int Tryd.underlying3 (hval 2 3 v2 rfl rfl) h2
  refine (binary_law ka na kb nb a b la ca lb cb l r op hl hr W k1 k2 (pow_of5 hL)).mono fun e W' ⟨he, hg⟩ => ?_
  subst he
  exact ⟨_, rfl, law_post hW' hg rfl rfl rfl (by kernel_rfl)⟩

theorem valueBinary_said : Rows.ValueBinarySaid :=
  OpenClaim.holds_of_wide 3 Tryd.f3 rfl rfl rfl rfl rfl rfl rfl ⟨rfl, rfl, rfl, rfl, rfl⟩ rfl rfl rfl rfl rfl (by kernel_rfl) Tryd.func3 (by kernel_rfl)
    (of_decide_eq_true (by kernel_rfl)) (by unfold Func.isWrapper; first | (rw [if_pos (by decide +kernel)]; kernel_rfl) | (rw [if_neg (by decide +kernel)]; exact ⟨rfl, rfl⟩))
    (fun os started H enc _ => valueBinary_lifted os started H enc)

/-- The tied card: for every input ValueBinary returns true. -/
theorem valueBinary_holds : Rows.ValueBinaryCardSaid :=
  Claim7.holds_tied_plain_at .later [] [.data, .data, .data, .data, .pinned] true (true, "30bdf059d16b84e6251bd218bc849d4d5d58f7498a8f48da87b81494b06db6a7") false
    valueBinary_said (fun _ h => by cases h) (by kernel_rfl) (fun _ h => by cases h) valueBinary_row_tie rfl ⟨rfl, rfl⟩ (by kernel_rfl) rfl
    (fun f fn hf hfn => by
      obtain rfl : f = 3 := Option.some.inj ((show Tryd.prog.funcNamed "ossuary/ossuarylaw03.ValueBinary" = some 3 by kernel_rfl).symm.trans hf) |>.symm
      obtain rfl : fn = Tryd.f3 := (Option.some.inj (Tryd.func3.symm.trans hfn)).symm
      exact ⟨by kernel_rfl, fun j t ht => by
        have hall : ((Tryd.f3.params).toList.all fun u => !Tryd.prog.wantsStandIn u) = true := by kernel_rfl
        have hm : t ∈ (Tryd.f3.params).toList := by simpa using Array.mem_of_getElem? ht
        exact (show Tryd.prog.wantsStandIn t = false by simpa using List.all_eq_true.1 hall t hm)⟩)
    (by kernel_rfl)
#print axioms valueBinary_holds
end
end Go.Proofs.YtbkgophgclpijaaDoor
