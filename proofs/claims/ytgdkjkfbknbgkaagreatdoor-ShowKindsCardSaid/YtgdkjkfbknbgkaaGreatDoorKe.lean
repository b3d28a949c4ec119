/- Package show: what is printed of leaves and arrays. -/
import Derived.Test.YtgdkjkfbknbgkaaGreatDoorKc
import Derived.Test.YtgdkjkfbknbgkaaGreatDoorShelf
import Derived.Test.YtgdkjkfbknbgkaaGreatDoorKd
import Derived.Test.YtgdkjkfbknbgkaaGreatDoorKt
import Derived.Laws.StructEq
namespace Go.Proofs.YtgdkjkfbknbgkaaGreatDoor.W
open Go.RowKit

theorem of_const (s : ByteArray) (r : List UInt8) (hs : s.size ≤ 16777216) (h : Hid (ofB s = r)) (w : World) :
    Calls Tryz.prog 20 #[.string s] w fun e w' => e = .returned (.string ⟨r.toArray⟩) ∧ Below w.heap.size w w' :=
  (of_any s hs w).mono fun _ _ he => by rw [h.out] at he; exact he
theorem blw_call {B : Nat} {w w1 w2 : World} (h : Below B w w1) (h2 : Below w1.heap.size w1 w2) (hB : B ≤ w.heap.size) : Below B w w2 := h.trans (h2.mono (by have := h.size; omega))

theorem blw2 {w w1 w2 : World} (h : Below w.heap.size w w1) (h2 : Below w1.heap.size w1 w2) : Below w.heap.size w w2 := h.trans (h2.mono h.size)
/-- A text of ASCII bytes: each is a unit. -/
theorem ofFrom_ascii (s : ByteArray) : ∀ (f p : Nat), s.size ≤ p + f → (∀ i (h : i < s.size), s[i].toNat < 128) → ofFrom s f p = (s.data.toList.drop p).flatMap (fun b => [0, b])
  | 0, p, hf, _ => by
    rw [List.drop_of_length_le (by simpa using hf)]; rfl
  | f + 1, p, hf, ha => by
    by_cases hp : p < s.size
    · rw [ofFrom_step s f p hp, decode_ascii s p hp (ha p hp), ofFrom_ascii s f (p + 1) (by omega) ha]
      have hl : p < s.data.toList.length := by simpa using hp
      rw [List.drop_eq_getElem_cons hl, List.flatMap_cons]
      have e : ofR s[p].toNat = [0, s[p]] := by
        have h1 := ha p hp
        unfold ofR u2
        rw [if_pos (by omega)]
        have h2 : s[p].toNat / 256 = 0 := by omega
        rw [h2]; simp
      rw [e]; rfl
    · rw [ofFrom_end s _ p hp, List.drop_of_length_le (by simp; omega)]; rfl
theorem ofB_ascii (l : List UInt8) (ha : ∀ b ∈ l, b.toNat < 128) : ofB ⟨l.toArray⟩ = l.flatMap (fun b => [0, b]) := by
  unfold ofB
  rw [ofFrom_ascii _ _ _ (by omega) (fun i h => ha _ (by simp [ByteArray.getElem_eq_getElem_data]))]
  simp
theorem units_ascii : ∀ (l : List UInt8), units (l.flatMap (fun b => [0, b])) = l.map (fun b => b.toNat)
  | [] => rfl
  | b :: r => by
    have := units_ascii r
    simp only [List.flatMap_cons, List.map_cons]
    show units (0 :: b :: r.flatMap (fun b => [0, b])) = _
    simp [units, this]
theorem unitsS_ofB (l : List UInt8) (ha : ∀ b ∈ l, b.toNat < 128) : unitsS ⟨(ofB ⟨l.toArray⟩).toArray⟩ = l.map (fun b => b.toNat) := by
  unfold unitsS; rw [ofB_ascii l ha]; simpa using units_ascii l
theorem val_any (s : ByteArray) (hs : s.size ≤ 16777216) (w : World) :
    Calls Tryz.prog 23 #[.string s] w fun e w' => e = .returned (.agg #[.int .i64 7, .int .i64 0, .string ⟨(ofB s).toArray⟩]) ∧ Below w.heap.size w w' := by
  go_enter Tryz.func23, Tryz.ntmps23
  go_wp2_with (first | (go_at_call 20; ((with_reducible refine (of_any _ (by assumption) _).mono ?_); rintro e wx ⟨rfl, hbx⟩; refine Hid.out ?_)))
  obtain ⟨hc, hf⟩ : (∀ o, wx.cell? ⟨w.heap.size, o, none⟩ = (w.alloc (.cells #[.int .i64 0, .int .i64 0, .string ⟨#[]⟩] 30)).cell? ⟨w.heap.size, o, none⟩) ∧ (∀ o, wx.frozen? ⟨w.heap.size, o, none⟩ = (w.alloc (.cells #[.int .i64 0, .int .i64 0, .string ⟨#[]⟩] 30)).frozen? ⟨w.heap.size, o, none⟩) :=
    ⟨fun o => hbx.cell (p := ⟨w.heap.size, o, none⟩) (by simp), fun o => hbx.frozen (p := ⟨w.heap.size, o, none⟩) (by simp)⟩
  have hB : Below w.heap.size w wx := ((Below.refl _ _).alloc (Nat.le_refl _) _).trans (hbx.mono (by simp))
  have hz : w.heap.size < wx.heap.size := by have := hbx.size; simp at this; omega
  refine Lib.hid ?_
  go_wp2
  refine bodyPost_ret (v := .agg #[.int .i64 7, .int .i64 0, .string ⟨(ofB s).toArray⟩]) (by simp [results, Tryz.results23, go_sem, hc]) rfl ⟨rfl, ?_⟩
  exact ((hB.setCell (p := ⟨_, 0, none⟩) (Nat.le_refl _) _).setCell (p := ⟨_, 1, none⟩) (Nat.le_refl _) _).setCell (p := ⟨_, 2, none⟩) (Nat.le_refl _) _

theorem val_const (s : ByteArray) (r : List UInt8) (hs : s.size ≤ 16777216) (h : Hid (ofB s = r)) (w : World) :
    Calls Tryz.prog 23 #[.string s] w fun e w' => e = .returned (.agg #[.int .i64 7, .int .i64 0, .string ⟨r.toArray⟩]) ∧ Below w.heap.size w w' :=
  (val_any s hs w).mono fun _ _ he => by rw [h.out] at he; exact he
theorem bcell {W w1 : World} (hb : Below W.heap.size W w1) : (∀ b o, b < W.heap.size → w1.cell? ⟨b, o, none⟩ = W.cell? ⟨b, o, none⟩) ∧ (∀ b o, b < W.heap.size → w1.frozen? ⟨b, o, none⟩ = W.frozen? ⟨b, o, none⟩) :=
  ⟨fun b o h => hb.cell (p := ⟨b, o, none⟩) h, fun b o h => hb.frozen (p := ⟨b, o, none⟩) h⟩

/-- A value of package api. -/
abbrev V (k n : Int) (s : ByteArray) : Value := .agg #[.int .i64 k, .int .i64 n, .string s]
/-- The block in which such a value lies. -/
abbrev bxs (k n : Int) (s : ByteArray) : Obj := .cells #[.int .i64 k, .int .i64 n, .string s] 30
abbrev e0 : ByteArray := ⟨#[]⟩

theorem is_0 (w : World) : Calls Tryz.prog 94 #[V 3 0 e0] w fun e w' => e = .returned (.bool true) ∧ w.alloc (bxs 3 0 e0) = w' := by
  go_enter Tryz.func94, Tryz.ntmps94
  go_wp2
  go_ret
  exact ⟨rfl, rfl⟩
theorem fmt_0 (w : World) : Calls Tryz.prog 109 #[.int .i64 0, .int .i64 10] w fun e w' => e = .returned (.string ⟨#[48]⟩) ∧ w' = w := by
  have h := Tryz.strconv_FormatInt_10_small 0 (by omega) w
  have e : Lib.decDigits 0 = [48] := by rw [Lib.decDigits, dif_pos (by omega)]; rfl
  rw [e] at h
  exact h
theorem numText_0 (w : World) : Calls Tryz.prog 95 #[V 3 0 e0] w fun e w' => e = .returned (.string ⟨#[48]⟩) ∧ w.alloc (bxs 3 0 e0) = w' := by
  go_enter Tryz.func95, Tryz.ntmps95
  go_wp2_with (first | (go_at_call 109; ((with_reducible refine (fmt_0 _).mono ?_); rintro e w' ⟨rfl, rfl⟩)))
  go_ret
  exact ⟨rfl, rfl⟩
theorem text_0 (w : World) : Calls Tryz.prog 62 #[V 3 0 e0] w fun e w' => e = .returned (.tuple #[.string ⟨#[0, 48]⟩, .int .i64 0]) ∧ Below w.heap.size w w' := by
  have c1 : Hid (ofB ⟨#[48]⟩ = [0, 48]) := by show _ = _; decide +kernel
  go_enter Tryz.func62, Tryz.ntmps62
  go_wp2_with (first | (go_at_call 94; ((with_reducible refine (is_0 _).mono ?_); rintro e w' ⟨rfl, rfl⟩)) | (go_at_call 95; ((with_reducible refine (numText_0 _).mono ?_); rintro e w' ⟨rfl, rfl⟩)) | (go_at_call 20; ((with_reducible refine (of_const _ _ (by decide) c1 _).mono ?_); rintro e w1 ⟨rfl, hb1⟩)))
  go_ret2
  exact ⟨rfl, ((((Below.refl _ _).alloc (Nat.le_refl _) _).alloc (by simp) _).alloc (by simp; omega) _).trans (hb1.mono (by simp; omega))⟩
theorem is_1 (w : World) : Calls Tryz.prog 94 #[V 3 1 e0] w fun e w' => e = .returned (.bool true) ∧ w.alloc (bxs 3 1 e0) = w' := by
  go_enter Tryz.func94, Tryz.ntmps94
  go_wp2
  go_ret
  exact ⟨rfl, rfl⟩
theorem fmt_1 (w : World) : Calls Tryz.prog 109 #[.int .i64 1, .int .i64 10] w fun e w' => e = .returned (.string ⟨#[49]⟩) ∧ w' = w := by
  have h := Tryz.strconv_FormatInt_10_small 1 (by omega) w
  have e : Lib.decDigits 1 = [49] := by rw [Lib.decDigits, dif_pos (by omega)]; rfl
  rw [e] at h
  exact h
theorem numText_1 (w : World) : Calls Tryz.prog 95 #[V 3 1 e0] w fun e w' => e = .returned (.string ⟨#[49]⟩) ∧ w.alloc (bxs 3 1 e0) = w' := by
  go_enter Tryz.func95, Tryz.ntmps95
  go_wp2_with (first | (go_at_call 109; ((with_reducible refine (fmt_1 _).mono ?_); rintro e w' ⟨rfl, rfl⟩)))
  go_ret
  exact ⟨rfl, rfl⟩
theorem text_1 (w : World) : Calls Tryz.prog 62 #[V 3 1 e0] w fun e w' => e = .returned (.tuple #[.string ⟨#[0, 49]⟩, .int .i64 0]) ∧ Below w.heap.size w w' := by
  have c1 : Hid (ofB ⟨#[49]⟩ = [0, 49]) := by show _ = _; decide +kernel
  go_enter Tryz.func62, Tryz.ntmps62
  go_wp2_with (first | (go_at_call 94; ((with_reducible refine (is_1 _).mono ?_); rintro e w' ⟨rfl, rfl⟩)) | (go_at_call 95; ((with_reducible refine (numText_1 _).mono ?_); rintro e w' ⟨rfl, rfl⟩)) | (go_at_call 20; ((with_reducible refine (of_const _ _ (by decide) c1 _).mono ?_); rintro e w1 ⟨rfl, hb1⟩)))
  go_ret2
  exact ⟨rfl, ((((Below.refl _ _).alloc (Nat.le_refl _) _).alloc (by simp) _).alloc (by simp; omega) _).trans (hb1.mono (by simp; omega))⟩
end Go.Proofs.YtgdkjkfbknbgkaaGreatDoor.W
namespace Go.Proofs.YtgdkjkfbknbgkaaGreatDoor
open Go Go.RowKit

set_option maxHeartbeats 1000000 in
set_option maxRecDepth 100000 in
theorem object_yes {W : World} (m h : Nat) (v : Vt) (hm : W.cell? ⟨m, 0, none⟩ = some (.pointer (some ⟨h, 0, none⟩))) (hml : m < W.heap.size) (o : Nat) (HOF : Veil (∀ W', Below W.heap.size W W' → Calls Tryz.prog 21 #[.pointer (some ⟨h, 0, none⟩), valV v] W' fun e w' => e = .returned (.pointer (some ⟨o, 0, none⟩)) ∧ Below W'.heap.size W' w')) : Calls Tryz.prog 82 #[.pointer (some ⟨m, 0, none⟩), valV v] W fun e w' => e = .returned (.pointer (some ⟨o, 0, none⟩)) ∧ Below W.heap.size W w' := by
  have b1 := Box.new W 30 #[.int .i64 v.1, .int .i64 v.2.1, .string v.2.2]
  have bb : Below W.heap.size W (W.alloc (.cells #[.int .i64 v.1, .int .i64 v.2.1, .string v.2.2] 30)) := (Below.refl _ _).alloc (Nat.le_refl _) _
  obtain ⟨kb, hkb⟩ : ∃ kb, W.heap.size = kb := ⟨_, rfl⟩
  obtain ⟨W0, hW0⟩ : ∃ W0, W.alloc (.cells #[.int .i64 v.1, .int .i64 v.2.1, .string v.2.2] 30) = W0 := ⟨_, rfl⟩
  rw [hW0] at b1 bb
  have HW0 := Veil.mk (And.intro hW0 hkb)
  rw [hkb] at b1
  have HBB := Veil.mk (And.intro bb b1)
  have x0 : W0.cell? ⟨kb, 0, none⟩ = some (.int .i64 v.1) := b1.at_ 0
  have x1 : W0.cell? ⟨kb, 1, none⟩ = some (.int .i64 v.2.1) := b1.at_ 1
  have x2 : W0.cell? ⟨kb, 2, none⟩ = some (.string v.2.2) := b1.at_ 2
  clear hW0 hkb b1 bb
  have hm0 : W0.cell? ⟨m, 0, none⟩ = some (.pointer (some ⟨h, 0, none⟩)) := by rw [HBB.out.1.cell (p := ⟨m, 0, none⟩) hml]; exact hm
  go_enter Tryz.func82, Tryz.ntmps82
  go_upto_region 1 with (fail)
  rw [HW0.out.1, HW0.out.2]
  go_upto_region 3 with (fail)
  obtain ⟨WF, hWF⟩ : ∃ WF, W0.drew = WF := ⟨_, rfl⟩
  have HBF : Veil (Below W.heap.size W WF) := ⟨by rw [← hWF]; exact HBB.out.1.drew⟩
  have HC : Veil (WF.cell? ⟨m, 0, none⟩ = some (.pointer (some ⟨h, 0, none⟩)) ∧ WF.cell? ⟨kb, 0, none⟩ = some (.int .i64 v.1) ∧ WF.cell? ⟨kb, 1, none⟩ = some (.int .i64 v.2.1) ∧ WF.cell? ⟨kb, 2, none⟩ = some (.string v.2.2)) := ⟨by rw [← hWF]; exact ⟨hm0, x0, x1, x2⟩⟩
  have HOF := Veil.mk (HOF.out WF HBF.out)
  have HWF := Veil.mk hWF
  clear hWF hm0 x0 x1 x2 hm hml
  refine wp_region_chain (some (· = .pointer (some ⟨m, 0, none⟩)) :: some (· = .pointer (some ⟨m, 0, none⟩)) :: some (· = .pointer (some ⟨m, 0, none⟩)) :: some (· = .pointer (some ⟨h, 0, none⟩)) :: some (· = valV v) :: some (· = .pointer (some ⟨o, 0, none⟩)) :: some (· = .pointer (some ⟨o, 0, none⟩)) :: [] : List (Option (Value → Prop))) (LPh [5] (fun j _ w => match j with | 0 => w = WF | _ => Below WF.heap.size WF w)) [some 7, some 8, some 9, some 10, some 11, some 12, some 4] (curV' _ [some 7, some 8, some 9, some 10, some 11, some 12, some 4]) (by kernel_rfl) rfl rfl (puts_cur _ _) (LPh.start (show _ = WF from HWF.out)) ?_ (by kernel_rfl) ?_
  · refine Steps.cons rfl (fun bb aa w' hbs hb0 hbp hI K hK => ?_) ?_
    · obtain ⟨us, hus, ha, hI⟩ := hI
      obtain ⟨u0, u1, u2, u3, u4, u5, u6, rfl⟩ := lenA7 hus
      have HI := Veil.mk hI
      clear hI
      rw [ha]
      simp only [puts, setAll, List.setIfInBounds_toArray, List.set_cons_zero, List.set_cons_succ]
      go_simp
      exact hK _ _ (chain_step HI.out hus hbs 0 _ (by show 0 < 7; decide) rfl hbp (val_of rfl rfl) (HI.out.ph.step 0 _ (by decide) (by decide)) (by simp only [puts, setAll, List.set_cons_zero, List.set_cons_succ, List.setIfInBounds_toArray]))
    refine Steps.cons rfl (fun bb aa w' hbs hb0 hbp hI K hK => ?_) ?_
    · obtain ⟨us, hus, ha, hI⟩ := hI
      obtain ⟨u0, u1, u2, u3, u4, u5, u6, rfl⟩ := lenA7 hus
      have e0 : u0 = .pointer (some ⟨m, 0, none⟩) := hI.val 0 _ rfl (gen_after 0 (by kernel_rfl) hbp)
      subst e0
      have HI := Veil.mk hI
      clear hI
      rw [ha]
      simp only [puts, setAll, List.setIfInBounds_toArray, List.set_cons_zero, List.set_cons_succ]
      go_simp
      exact hK _ _ (chain_step HI.out hus hbs 1 _ (by show 1 < 7; decide) rfl hbp (val_of rfl rfl) (HI.out.ph.step 1 _ (by decide) (by decide)) (by simp only [puts, setAll, List.set_cons_zero, List.set_cons_succ, List.setIfInBounds_toArray]))
    refine Steps.cons rfl (fun bb aa w' hbs hb0 hbp hI K hK => ?_) ?_
    · obtain ⟨us, hus, ha, hI⟩ := hI
      obtain ⟨u0, u1, u2, u3, u4, u5, u6, rfl⟩ := lenA7 hus
      have e1 : u1 = .pointer (some ⟨m, 0, none⟩) := hI.val 1 _ rfl (gen_after 1 (by kernel_rfl) hbp)
      subst e1
      have HI := Veil.mk hI
      clear hI
      rw [ha]
      simp only [puts, setAll, List.setIfInBounds_toArray, List.set_cons_zero, List.set_cons_succ]
      go_simp
      exact hK _ _ (chain_step HI.out hus hbs 2 _ (by show 2 < 7; decide) rfl hbp (val_of rfl rfl) (HI.out.ph.step 2 _ (by decide) (by decide)) (by simp only [puts, setAll, List.set_cons_zero, List.set_cons_succ, List.setIfInBounds_toArray]))
    refine Steps.cons rfl (fun bb aa w' hbs hb0 hbp hI K hK => ?_) ?_
    · obtain ⟨us, hus, ha, hI⟩ := hI
      obtain ⟨u0, u1, u2, u3, u4, u5, u6, rfl⟩ := lenA7 hus
      have e2 : u2 = .pointer (some ⟨m, 0, none⟩) := hI.val 2 _ rfl (gen_after 2 (by kernel_rfl) hbp)
      subst e2
      have gb := (hI.bwd [3] 5 3 (by kernel_rfl) rfl hb0)
      have hst := hI.ph.btw1 0 (.inl rfl) (.inr ⟨5, rfl, gb⟩)
      have hst' : WF = w' := (show w' = WF from hst).symm
      clear hst
      subst hst'
      have c0 := HC.out.1
      clear gb
      have HI := Veil.mk hI
      clear hI
      rw [ha]
      simp only [puts, setAll, List.setIfInBounds_toArray, List.set_cons_zero, List.set_cons_succ]
      go_simp
      exact hK _ _ (chain_step HI.out hus hbs 3 _ (by show 3 < 7; decide) rfl hbp (val_of rfl rfl) (HI.out.ph.step 3 _ (by decide) (by decide)) (by simp only [puts, setAll, List.set_cons_zero, List.set_cons_succ, List.setIfInBounds_toArray]))
    refine Steps.cons rfl (fun bb aa w' hbs hb0 hbp hI K hK => ?_) ?_
    · obtain ⟨us, hus, ha, hI⟩ := hI
      obtain ⟨u0, u1, u2, u3, u4, u5, u6, rfl⟩ := lenA7 hus
      have gb := (hI.bwd [4] 5 4 (by kernel_rfl) rfl hb0)
      have hst := hI.ph.btw1 0 (.inl rfl) (.inr ⟨5, rfl, gb⟩)
      have hst' : WF = w' := (show w' = WF from hst).symm
      clear hst
      subst hst'
      have c0 := HC.out.2.1
      have c1 := HC.out.2.2.1
      have c2 := HC.out.2.2.2
      clear gb
      have HI := Veil.mk hI
      clear hI
      rw [ha]
      simp only [puts, setAll, List.setIfInBounds_toArray, List.set_cons_zero, List.set_cons_succ]
      go_simp
      exact hK _ _ (chain_step HI.out hus hbs 4 _ (by show 4 < 7; decide) rfl hbp (val_of rfl rfl) (HI.out.ph.step 4 _ (by decide) (by decide)) (by simp only [puts, setAll, List.set_cons_zero, List.set_cons_succ, List.setIfInBounds_toArray]))
    refine Steps.cons rfl (fun bb aa w' hbs hb0 hbp hI K hK => ?_) ?_
    · obtain ⟨us, hus, ha, hI⟩ := hI
      obtain ⟨u0, u1, u2, u3, u4, u5, u6, rfl⟩ := lenA7 hus
      have e3 : u3 = .pointer (some ⟨h, 0, none⟩) := hI.val 3 _ rfl (gen_after 3 (by kernel_rfl) hbp)
      subst e3
      have e4 : u4 = valV v := hI.val 4 _ rfl (gen_after 4 (by kernel_rfl) hbp)
      subst e4
      have gb := hb0
      have hst := hI.ph.btw1 0 (.inl rfl) (.inr ⟨5, rfl, gb⟩)
      have hst' : WF = w' := (show w' = WF from hst).symm
      clear hst
      subst hst'
      clear gb
      have HI := Veil.mk hI
      clear hI
      rw [ha]
      simp only [puts, setAll, List.setIfInBounds_toArray, List.set_cons_zero, List.set_cons_succ]
      go_simp
      go_at_call 21
      refine HOF.out.mono ?_
      rintro e9 w9 ⟨rfl, hb9⟩
      go_simp
      exact hK _ _ (chain_step HI.out hus hbs 5 _ (by show 5 < 7; decide) rfl hbp (val_of rfl rfl) (HI.out.ph.next 0 5 _ rfl hb0 (.inl rfl) (by decide) (hb9)) (by simp only [puts, setAll, List.set_cons_zero, List.set_cons_succ, List.setIfInBounds_toArray]))
    refine Steps.cons rfl (fun bb aa w' hbs hb0 hbp hI K hK => ?_) ?_
    · obtain ⟨us, hus, ha, hI⟩ := hI
      obtain ⟨u0, u1, u2, u3, u4, u5, u6, rfl⟩ := lenA7 hus
      have e5 : u5 = .pointer (some ⟨o, 0, none⟩) := hI.val 5 _ rfl (gen_after 5 (by kernel_rfl) hbp)
      subst e5
      have HI := Veil.mk hI
      clear hI
      rw [ha]
      simp only [puts, setAll, List.setIfInBounds_toArray, List.set_cons_zero, List.set_cons_succ]
      go_simp
      exact hK _ _ (chain_step HI.out hus hbs 6 _ (by show 6 < 7; decide) rfl hbp (val_of rfl rfl) (HI.out.ph.step 6 _ (by decide) (by decide)) (by simp only [puts, setAll, List.set_cons_zero, List.set_cons_succ, List.setIfInBounds_toArray]))
    exact Steps.nil
  · intro us wE hus dd hD2 hJ
    obtain ⟨p0, p1, p2, p3, p4, p5, p6, rfl⟩ := lenA7 hus
    have q1 := hJ.ph.all (fun c hc => hD2 c (by
      have : c = 5 := by simpa using hc
      show c < 7
      omega))
    have e0 : p0 = .pointer (some ⟨m, 0, none⟩) := hJ.val 0 _ rfl (hD2 0 (by show 0 < 7; decide))
    subst e0
    have e1 : p1 = .pointer (some ⟨m, 0, none⟩) := hJ.val 1 _ rfl (hD2 1 (by show 1 < 7; decide))
    subst e1
    have e2 : p2 = .pointer (some ⟨m, 0, none⟩) := hJ.val 2 _ rfl (hD2 2 (by show 2 < 7; decide))
    subst e2
    have e3 : p3 = .pointer (some ⟨h, 0, none⟩) := hJ.val 3 _ rfl (hD2 3 (by show 3 < 7; decide))
    subst e3
    have e4 : p4 = valV v := hJ.val 4 _ rfl (hD2 4 (by show 4 < 7; decide))
    subst e4
    have e5 : p5 = .pointer (some ⟨o, 0, none⟩) := hJ.val 5 _ rfl (hD2 5 (by show 5 < 7; decide))
    subst e5
    have e6 : p6 = .pointer (some ⟨o, 0, none⟩) := hJ.val 6 _ rfl (hD2 6 (by show 6 < 7; decide))
    subst e6
    clear hJ hD2
    have HQ := Veil.mk (show Below WF.heap.size WF wE from q1)
    clear q1
    simp only [puts, setAll, List.setIfInBounds_toArray, List.set_cons_zero, List.set_cons_succ]
    go_wp2
    go_ret
    exact ⟨rfl, HBF.out.trans (HQ.out.mono HBF.out.size)⟩
set_option maxHeartbeats 1000000 in
set_option maxRecDepth 100000 in
theorem object_no {W : World} (m h : Nat) (v : Vt) (hm : W.cell? ⟨m, 0, none⟩ = some (.pointer (some ⟨h, 0, none⟩))) (hml : m < W.heap.size)  (HOF : Veil (∀ W', Below W.heap.size W W' → Calls Tryz.prog 21 #[.pointer (some ⟨h, 0, none⟩), valV v] W' fun e w' => e = .returned (.pointer none) ∧ Below W'.heap.size W' w')) : Calls Tryz.prog 82 #[.pointer (some ⟨m, 0, none⟩), valV v] W fun e w' => e = .returned (.pointer none) ∧ Below W.heap.size W w' := by
  have b1 := Box.new W 30 #[.int .i64 v.1, .int .i64 v.2.1, .string v.2.2]
  have bb : Below W.heap.size W (W.alloc (.cells #[.int .i64 v.1, .int .i64 v.2.1, .string v.2.2] 30)) := (Below.refl _ _).alloc (Nat.le_refl _) _
  obtain ⟨kb, hkb⟩ : ∃ kb, W.heap.size = kb := ⟨_, rfl⟩
  obtain ⟨W0, hW0⟩ : ∃ W0, W.alloc (.cells #[.int .i64 v.1, .int .i64 v.2.1, .string v.2.2] 30) = W0 := ⟨_, rfl⟩
  rw [hW0] at b1 bb
  have HW0 := Veil.mk (And.intro hW0 hkb)
  rw [hkb] at b1
  have HBB := Veil.mk (And.intro bb b1)
  have x0 : W0.cell? ⟨kb, 0, none⟩ = some (.int .i64 v.1) := b1.at_ 0
  have x1 : W0.cell? ⟨kb, 1, none⟩ = some (.int .i64 v.2.1) := b1.at_ 1
  have x2 : W0.cell? ⟨kb, 2, none⟩ = some (.string v.2.2) := b1.at_ 2
  clear hW0 hkb b1 bb
  have hm0 : W0.cell? ⟨m, 0, none⟩ = some (.pointer (some ⟨h, 0, none⟩)) := by rw [HBB.out.1.cell (p := ⟨m, 0, none⟩) hml]; exact hm
  go_enter Tryz.func82, Tryz.ntmps82
  go_upto_region 1 with (fail)
  rw [HW0.out.1, HW0.out.2]
  go_upto_region 3 with (fail)
  obtain ⟨WF, hWF⟩ : ∃ WF, W0.drew = WF := ⟨_, rfl⟩
  have HBF : Veil (Below W.heap.size W WF) := ⟨by rw [← hWF]; exact HBB.out.1.drew⟩
  have HC : Veil (WF.cell? ⟨m, 0, none⟩ = some (.pointer (some ⟨h, 0, none⟩)) ∧ WF.cell? ⟨kb, 0, none⟩ = some (.int .i64 v.1) ∧ WF.cell? ⟨kb, 1, none⟩ = some (.int .i64 v.2.1) ∧ WF.cell? ⟨kb, 2, none⟩ = some (.string v.2.2)) := ⟨by rw [← hWF]; exact ⟨hm0, x0, x1, x2⟩⟩
  have HOF := Veil.mk (HOF.out WF HBF.out)
  have HWF := Veil.mk hWF
  clear hWF hm0 x0 x1 x2 hm hml
  refine wp_region_chain (some (· = .pointer (some ⟨m, 0, none⟩)) :: some (· = .pointer (some ⟨m, 0, none⟩)) :: some (· = .pointer (some ⟨m, 0, none⟩)) :: some (· = .pointer (some ⟨h, 0, none⟩)) :: some (· = valV v) :: some (· = .pointer none) :: some (· = .pointer none) :: [] : List (Option (Value → Prop))) (LPh [5] (fun j _ w => match j with | 0 => w = WF | _ => Below WF.heap.size WF w)) [some 7, some 8, some 9, some 10, some 11, some 12, some 4] (curV' _ [some 7, some 8, some 9, some 10, some 11, some 12, some 4]) (by kernel_rfl) rfl rfl (puts_cur _ _) (LPh.start (show _ = WF from HWF.out)) ?_ (by kernel_rfl) ?_
  · refine Steps.cons rfl (fun bb aa w' hbs hb0 hbp hI K hK => ?_) ?_
    · obtain ⟨us, hus, ha, hI⟩ := hI
      obtain ⟨u0, u1, u2, u3, u4, u5, u6, rfl⟩ := lenA7 hus
      have HI := Veil.mk hI
      clear hI
      rw [ha]
      simp only [puts, setAll, List.setIfInBounds_toArray, List.set_cons_zero, List.set_cons_succ]
      go_simp
      exact hK _ _ (chain_step HI.out hus hbs 0 _ (by show 0 < 7; decide) rfl hbp (val_of rfl rfl) (HI.out.ph.step 0 _ (by decide) (by decide)) (by simp only [puts, setAll, List.set_cons_zero, List.set_cons_succ, List.setIfInBounds_toArray]))
    refine Steps.cons rfl (fun bb aa w' hbs hb0 hbp hI K hK => ?_) ?_
    · obtain ⟨us, hus, ha, hI⟩ := hI
      obtain ⟨u0, u1, u2, u3, u4, u5, u6, rfl⟩ := lenA7 hus
      have e0 : u0 = .pointer (some ⟨m, 0, none⟩) := hI.val 0 _ rfl (gen_after 0 (by kernel_rfl) hbp)
      subst e0
      have HI := Veil.mk hI
      clear hI
      rw [ha]
      simp only [puts, setAll, List.setIfInBounds_toArray, List.set_cons_zero, List.set_cons_succ]
      go_simp
      exact hK _ _ (chain_step HI.out hus hbs 1 _ (by show 1 < 7; decide) rfl hbp (val_of rfl rfl) (HI.out.ph.step 1 _ (by decide) (by decide)) (by simp only [puts, setAll, List.set_cons_zero, List.set_cons_succ, List.setIfInBounds_toArray]))
    refine Steps.cons rfl (fun bb aa w' hbs hb0 hbp hI K hK => ?_) ?_
    · obtain ⟨us, hus, ha, hI⟩ := hI
      obtain ⟨u0, u1, u2, u3, u4, u5, u6, rfl⟩ := lenA7 hus
      have e1 : u1 = .pointer (some ⟨m, 0, none⟩) := hI.val 1 _ rfl (gen_after 1 (by kernel_rfl) hbp)
      subst e1
      have HI := Veil.mk hI
      clear hI
      rw [ha]
      simp only [puts, setAll, List.setIfInBounds_toArray, List.set_cons_zero, List.set_cons_succ]
      go_simp
      exact hK _ _ (chain_step HI.out hus hbs 2 _ (by show 2 < 7; decide) rfl hbp (val_of rfl rfl) (HI.out.ph.step 2 _ (by decide) (by decide)) (by simp only [puts, setAll, List.set_cons_zero, List.set_cons_succ, List.setIfInBounds_toArray]))
    refine Steps.cons rfl (fun bb aa w' hbs hb0 hbp hI K hK => ?_) ?_
    · obtain ⟨us, hus, ha, hI⟩ := hI
      obtain ⟨u0, u1, u2, u3, u4, u5, u6, rfl⟩ := lenA7 hus
      have e2 : u2 = .pointer (some ⟨m, 0, none⟩) := hI.val 2 _ rfl (gen_after 2 (by kernel_rfl) hbp)
      subst e2
      have gb := (hI.bwd [3] 5 3 (by kernel_rfl) rfl hb0)
      have hst := hI.ph.btw1 0 (.inl rfl) (.inr ⟨5, rfl, gb⟩)
      have hst' : WF = w' := (show w' = WF from hst).symm
      clear hst
      subst hst'
      have c0 := HC.out.1
      clear gb
      have HI := Veil.mk hI
      clear hI
      rw [ha]
      simp only [puts, setAll, List.setIfInBounds_toArray, List.set_cons_zero, List.set_cons_succ]
      go_simp
      exact hK _ _ (chain_step HI.out hus hbs 3 _ (by show 3 < 7; decide) rfl hbp (val_of rfl rfl) (HI.out.ph.step 3 _ (by decide) (by decide)) (by simp only [puts, setAll, List.set_cons_zero, List.set_cons_succ, List.setIfInBounds_toArray]))
    refine Steps.cons rfl (fun bb aa w' hbs hb0 hbp hI K hK => ?_) ?_
    · obtain ⟨us, hus, ha, hI⟩ := hI
      obtain ⟨u0, u1, u2, u3, u4, u5, u6, rfl⟩ := lenA7 hus
      have gb := (hI.bwd [4] 5 4 (by kernel_rfl) rfl hb0)
      have hst := hI.ph.btw1 0 (.inl rfl) (.inr ⟨5, rfl, gb⟩)
      have hst' : WF = w' := (show w' = WF from hst).symm
      clear hst
      subst hst'
      have c0 := HC.out.2.1
      have c1 := HC.out.2.2.1
      have c2 := HC.out.2.2.2
      clear gb
      have HI := Veil.mk hI
      clear hI
      rw [ha]
      simp only [puts, setAll, List.setIfInBounds_toArray, List.set_cons_zero, List.set_cons_succ]
      go_simp
      exact hK _ _ (chain_step HI.out hus hbs 4 _ (by show 4 < 7; decide) rfl hbp (val_of rfl rfl) (HI.out.ph.step 4 _ (by decide) (by decide)) (by simp only [puts, setAll, List.set_cons_zero, List.set_cons_succ, List.setIfInBounds_toArray]))
    refine Steps.cons rfl (fun bb aa w' hbs hb0 hbp hI K hK => ?_) ?_
    · obtain ⟨us, hus, ha, hI⟩ := hI
      obtain ⟨u0, u1, u2, u3, u4, u5, u6, rfl⟩ := lenA7 hus
      have e3 : u3 = .pointer (some ⟨h, 0, none⟩) := hI.val 3 _ rfl (gen_after 3 (by kernel_rfl) hbp)
      subst e3
      have e4 : u4 = valV v := hI.val 4 _ rfl (gen_after 4 (by kernel_rfl) hbp)
      subst e4
      have gb := hb0
      have hst := hI.ph.btw1 0 (.inl rfl) (.inr ⟨5, rfl, gb⟩)
      have hst' : WF = w' := (show w' = WF from hst).symm
      clear hst
      subst hst'
      clear gb
      have HI := Veil.mk hI
      clear hI
      rw [ha]
      simp only [puts, setAll, List.setIfInBounds_toArray, List.set_cons_zero, List.set_cons_succ]
      go_simp
      go_at_call 21
      refine HOF.out.mono ?_
      rintro e9 w9 ⟨rfl, hb9⟩
      go_simp
      exact hK _ _ (chain_step HI.out hus hbs 5 _ (by show 5 < 7; decide) rfl hbp (val_of rfl rfl) (HI.out.ph.next 0 5 _ rfl hb0 (.inl rfl) (by decide) (hb9)) (by simp only [puts, setAll, List.set_cons_zero, List.set_cons_succ, List.setIfInBounds_toArray]))
    refine Steps.cons rfl (fun bb aa w' hbs hb0 hbp hI K hK => ?_) ?_
    · obtain ⟨us, hus, ha, hI⟩ := hI
      obtain ⟨u0, u1, u2, u3, u4, u5, u6, rfl⟩ := lenA7 hus
      have e5 : u5 = .pointer none := hI.val 5 _ rfl (gen_after 5 (by kernel_rfl) hbp)
      subst e5
      have HI := Veil.mk hI
      clear hI
      rw [ha]
      simp only [puts, setAll, List.setIfInBounds_toArray, List.set_cons_zero, List.set_cons_succ]
      go_simp
      exact hK _ _ (chain_step HI.out hus hbs 6 _ (by show 6 < 7; decide) rfl hbp (val_of rfl rfl) (HI.out.ph.step 6 _ (by decide) (by decide)) (by simp only [puts, setAll, List.set_cons_zero, List.set_cons_succ, List.setIfInBounds_toArray]))
    exact Steps.nil
  · intro us wE hus dd hD2 hJ
    obtain ⟨p0, p1, p2, p3, p4, p5, p6, rfl⟩ := lenA7 hus
    have q1 := hJ.ph.all (fun c hc => hD2 c (by
      have : c = 5 := by simpa using hc
      show c < 7
      omega))
    have e0 : p0 = .pointer (some ⟨m, 0, none⟩) := hJ.val 0 _ rfl (hD2 0 (by show 0 < 7; decide))
    subst e0
    have e1 : p1 = .pointer (some ⟨m, 0, none⟩) := hJ.val 1 _ rfl (hD2 1 (by show 1 < 7; decide))
    subst e1
    have e2 : p2 = .pointer (some ⟨m, 0, none⟩) := hJ.val 2 _ rfl (hD2 2 (by show 2 < 7; decide))
    subst e2
    have e3 : p3 = .pointer (some ⟨h, 0, none⟩) := hJ.val 3 _ rfl (hD2 3 (by show 3 < 7; decide))
    subst e3
    have e4 : p4 = valV v := hJ.val 4 _ rfl (hD2 4 (by show 4 < 7; decide))
    subst e4
    have e5 : p5 = .pointer none := hJ.val 5 _ rfl (hD2 5 (by show 5 < 7; decide))
    subst e5
    have e6 : p6 = .pointer none := hJ.val 6 _ rfl (hD2 6 (by show 6 < 7; decide))
    subst e6
    clear hJ hD2
    have HQ := Veil.mk (show Below WF.heap.size WF wE from q1)
    clear q1
    simp only [puts, setAll, List.setIfInBounds_toArray, List.set_cons_zero, List.set_cons_succ]
    go_wp2
    go_ret
    exact ⟨rfl, HBF.out.trans (HQ.out.mono HBF.out.size)⟩
theorem Tryz.infoStrT : (Tryz.prog.info? 9).map (fun i => (i.zero, i.size, i.bytes)) = some (some (.string ⟨#[]⟩), 1, 16) := by kernel_rfl
set_option maxRecDepth 100000 in
theorem array_deep (mv : Value) (ev : Value) (w : World) : Calls Tryz.prog 93 #[mv, ev, .int .i64 3] w fun e w' => e = .returned (.string ⟨#[91, 46, 46, 93]⟩) ∧ w' = w := by
  go_enter Tryz.func93, Tryz.ntmps93
  go_wp2
  go_ret
  exact ⟨rfl, rfl⟩
abbrev strsV (l : List ByteArray) : List Value := l.map fun s => .string s
/-- What array prints. -/
def arrS (parts : List ByteArray) : ByteArray := ⟨#[91]⟩ ++ ⟨(Lib.join (parts.map (·.data.toList)) [44, 32]).toArray⟩ ++ ⟨#[93]⟩
theorem join_own {w : World} {B n : Nat} {pv : Value} {parts : List ByteArray} (h : w.ownsRow B 9 1 pv n (strsV parts)) (hn : n ≤ 1000000) (hsz : (Lib.join (parts.map (·.data.toList)) [44, 32]).length ≤ 140737488355328) : Calls Tryz.prog 108 #[pv, .string ⟨#[44, 32]⟩] w fun e w' => e = .returned (.string ⟨(Lib.join (parts.map (·.data.toList)) [44, 32]).toArray⟩) ∧ Below w.heap.size w w' := by
  have hl : parts.length = n := by have := h.1; rw [List.length_map] at this; omega
  rcases h.2 with ⟨rfl, h0⟩ | ⟨g, cap, cur, rfl, hB, hb, hc, -, -, -⟩
  · have : parts = [] := List.length_eq_zero_iff.1 (by omega)
    subst this
    exact (Tryz.strings_Join_none none 0 ⟨#[44, 32]⟩ w).mono fun e w' ⟨he, hw⟩ => ⟨he, hw ▸ Below.refl _ _⟩
  · have := Tryz.strings_Join g 0 cap parts ⟨#[44, 32]⟩ w (fun j x hx => by
      have hj : j < parts.length := (List.getElem?_eq_some_iff.1 hx).1
      rw [Nat.zero_add, h.cellAt j (by omega), List.getElem?_map, hx]
      rfl) (lt_of_block hb) (by omega) (by omega) hsz
    rw [hl] at this
    exact this
set_option maxHeartbeats 2000000 in
set_option maxRecDepth 100000 in
theorem array_shown (mv ev : Value) (a : Nat) (ha : a < 3) (l : List Vt) (parts : List ByteArray) (hpl : parts.length = l.length) (hll : l.length ≤ 1000000) (W : World) (HR : RowV W ev l)
    (hsz : (Lib.join (parts.map (·.data.toList)) [44, 32]).length ≤ 140737488355328)
    (HE : ∀ (i : Nat) v p, l[i]? = some v → parts[i]? = some p → ∀ W', Below W.heap.size W W' → Calls Tryz.prog 28 #[mv, valV v, .int .i64 ((a : Int) + 1)] W' fun e w' => e = .returned (.string p) ∧ Below W'.heap.size W' w') :
    Calls Tryz.prog 93 #[mv, ev, .int .i64 (a : Int)] W fun e w' => e = .returned (.string (arrS parts)) ∧ Below W.heap.size W w' := by
  obtain ⟨ao, cap, rfl, hcap, hno, hso⟩ := HR
  obtain ⟨i0, hi, hz0, hz1, hz2⟩ := info_parts Tryz.infoStrT
  obtain ⟨n, hn⟩ : ∃ n, l.length = n := ⟨_, rfl⟩
  have HN := Veil.mk (And.intro hn hpl)
  have hll : n ≤ 1000000 := by omega
  have HS := Veil.mk hso
  have HNO := Veil.mk hno
  have HEV := Veil.mk HE
  have HSZ := Veil.mk hsz
  have ha3 : ¬ (3 : Int) ≤ (a : Int) := by omega
  have ha4 : (a : Int) < 3 := by omega
  have ha0 : (0 : Int) ≤ (a : Int) := by omega
  rw [hn] at hcap ⊢
  clear hno hso HE hsz hn hpl
  go_enter Tryz.func93, Tryz.ntmps93
  go_wp2
  go_loopw [7, 14] (fun p i wr => ∃ k : Nat, k ≤ n ∧ i = .int .i64 (k : Int) ∧ Below W.heap.size W wr ∧ wr.ownsRow W.heap.size 9 1 p k (strsV (parts.take k))) (fun _ i _ => n - (intOf i).toNat)
  case atStart => exact ⟨0, by omega, rfl, Below.refl _ _, ⟨rfl, .inl ⟨rfl, rfl⟩⟩⟩
  case round =>
    obtain ⟨k, hk, rfl, hb, hrow⟩ := hrel
    have hk0 : (0 : Int) ≤ (k : Int) := by omega
    by_cases hlt : k < n
    · have hlt' : (k : Int) < (n : Int) := by omega
      obtain ⟨v, hv⟩ : ∃ v, l[k]? = some v := ⟨_, List.getElem?_eq_getElem (by rw [HN.out.1]; exact hlt)⟩
      obtain ⟨p, hp⟩ : ∃ p, parts[k]? = some p := ⟨_, List.getElem?_eq_getElem (by rw [HN.out.2, HN.out.1]; exact hlt)⟩
      obtain ⟨g, hg⟩ : ∃ g, ao = some ⟨g, 0, none⟩ := by
        cases ao with
        | none =>
          have h1 := (HNO.out rfl).1
          have h2 : n = 0 := by rw [← HN.out.1, h1]; rfl
          omega
        | some ad =>
          obtain ⟨g, e, -⟩ := HS.out ad rfl
          exact ⟨g, by rw [e]⟩
      subst hg
      obtain ⟨g', hgg, hlb, hcs⟩ := HS.out _ rfl
      cases hgg
      obtain ⟨f0, f1, f2⟩ := flatV_at l k v hv
      have hc : ∀ j u, (flatV l)[j]? = some u → wr.cell? ⟨g, j, none⟩ = some u := fun j u hj => by rw [cell_blk (hb.block g (lab_lt hlb))]; exact hcs j u hj
      have c0 := hc _ _ f0
      have c1 := hc _ _ f1
      have c2 := hc _ _ f2
      clear f0 f1 f2 hc hcs hlb
      have HP := Veil.mk (And.intro hv (And.intro hp hb))
      clear hv hp hb
      go_upto_region 7 with (fail)
      obtain ⟨W2, hW2⟩ : ∃ W2, wr.alloc (.cells #[.int .i64 v.1, .int .i64 v.2.1, .string v.2.2] 30) = W2 := ⟨_, rfl⟩
      have bx := Box.new wr 30 #[.int .i64 v.1, .int .i64 v.2.1, .string v.2.2]
      have bl : Below wr.heap.size wr (wr.alloc (.cells #[.int .i64 v.1, .int .i64 v.2.1, .string v.2.2] 30)) := (Below.refl _ _).alloc (Nat.le_refl _) _
      rw [hW2] at bx bl ⊢
      have d0 : W2.cell? ⟨wr.heap.size, 0, none⟩ = some (.int .i64 v.1) := bx.at_ 0
      have d1 : W2.cell? ⟨wr.heap.size, 1, none⟩ = some (.int .i64 v.2.1) := bx.at_ 1
      have d2 : W2.cell? ⟨wr.heap.size, 2, none⟩ = some (.string v.2.2) := bx.at_ 2
      have hb2 := HP.out.2.2.trans (bl.mono HP.out.2.2.size)
      have hrow2 := own_below hrow bl
      have HW := Veil.mk (HEV.out k v p HP.out.1 HP.out.2.1 W2 hb2)
      have HB2 := Veil.mk hb2
      have hsW : W.heap.size ≤ W2.heap.size := hb2.size
      clear hW2 bx bl hb2 hrow c0 c1 c2
      go_wp2_with (first | (go_at_call 28; ((with_reducible refine HW.out.mono ?_); rintro e w3 ⟨rfl, hb3⟩; have hrow3 := own_below hrow2 hb3; have hs3 : W.heap.size ≤ w3.heap.size := Nat.le_trans hsW hb3.size; have HB3 := Veil.mk hb3; clear hb3 hrow2)) | (at_builtin; refine wpList_append_lies _ rfl _ _ 52 rfl W.heap.size 9 i0 (.string ⟨#[]⟩) 1 16 Tryz.underlying52 hi hz0 hz1 hz2 rfl (by decide) _ _ _ rfl (hrow3.alloc _) ⟨w3.heap.size, 0, none⟩ 1 1 [.string p] rfl rfl (news_at _ _ rfl _ _) (by simp [Value.oneCell']) (by decide) (by unfold maxLen; omega) (by omega) (by rw [World.size_alloc]; omega) _ rfl ?_; intro g5 cap5 w5 hown5 hgrow5 hblk5 hg5; refine Hid.out ?_))
      have bb : Below w3.heap.size w3 (w3.alloc (.cells #[.string p] 9)) := (Below.refl _ _).alloc (Nat.le_refl _) _
      have ht5 : Touch (fun b => u7.ownBlock = some b) w3 w5 := (Touch.of_below bb).trans (Touch.of_grown hgrow5 (fun b hb => hb))
      have hb5 : Below W.heap.size W w5 := (HB2.out.trans (HB3.out.mono hsW)).trans (ht5.below hs3 (fun b hb9 => (own_lt hrow3 b hb9).1))
      have hrow5 : w5.ownsRow W.heap.size 9 1 (.slice (some ⟨g5, 0, none⟩) (k + 1) cap5) (k + 1) (strsV (parts.take (k + 1))) := by
        have e : strsV (parts.take (k + 1)) = strsV (parts.take k) ++ [.string p] := by
          rw [List.take_add_one, HP.out.2.1]
          exact List.map_append
        rw [e]
        exact hown5
      have HR := Veil.mk (And.intro hb5 hrow5)
      clear bb ht5 hb5 hrow5 hown5 hgrow5 hblk5 hg5 hrow3 hs3 HB3 HB2 HW d0 d1 d2
      refine Lib.hid ?_
      go_wp2
      go_roundw
      case rel => exact ⟨k + 1, by omega, by go_num, HR.out.1, HR.out.2⟩
      case measure => simp [intOf]; omega
    · obtain rfl : k = n := by omega
      have HJ := Veil.mk (join_own (by rw [List.take_of_length_le (Nat.le_of_eq (HN.out.2.trans HN.out.1))] at hrow; exact hrow) hll HSZ.out)
      have HB := Veil.mk hb
      obtain ⟨a9, c9, hv9, -⟩ := slice_own hrow
      subst hv9
      clear hrow hb hlt hk
      obtain ⟨js, hjs⟩ : ∃ js, (Lib.join (parts.map (·.data.toList)) [44, 32]).toArray = js := ⟨_, rfl⟩
      have hjz : js.size ≤ 140737488355328 := by rw [← hjs]; simpa using HSZ.out
      have HJS := Veil.mk hjs
      rw [hjs] at HJ
      clear hjs
      go_wp2_with (go_at_call 108; ((with_reducible refine HJ.out.mono ?_); rintro e w9 ⟨rfl, hb9⟩; have HB9 := Veil.mk hb9; clear hb9))
      go_ret
      refine ⟨?_, HB.out.trans (HB9.out.mono HB.out.size)⟩
      rw [← HJS.out]
      rfl
end Go.Proofs.YtgdkjkfbknbgkaaGreatDoor
namespace Go.Proofs.YtgdkjkfbknbgkaaGreatDoor
open Go Go.RowKit

set_option maxHeartbeats 1000000 in
set_option maxRecDepth 100000 in
theorem within_empty (W : World) (mv av : Value) (v : Vt) (hx : v.1 = 10) : Calls Tryz.prog 28 #[mv, valV v, av] W fun e w' => e = .returned (.string ⟨#[]⟩) ∧ Below W.heap.size W w' := by
  have b1 := Box.new W 30 #[.int .i64 v.1, .int .i64 v.2.1, .string v.2.2]
  have bb : Below W.heap.size W (W.alloc (.cells #[.int .i64 v.1, .int .i64 v.2.1, .string v.2.2] 30)) := (Below.refl _ _).alloc (Nat.le_refl _) _
  obtain ⟨kb, hkb⟩ : ∃ kb, W.heap.size = kb := ⟨_, rfl⟩
  obtain ⟨W0, hW0⟩ : ∃ W0, W.alloc (.cells #[.int .i64 v.1, .int .i64 v.2.1, .string v.2.2] 30) = W0 := ⟨_, rfl⟩
  rw [hW0] at b1 bb
  have HW0 := Veil.mk (And.intro hW0 hkb)
  rw [hkb] at b1
  have HBB := Veil.mk (And.intro bb b1)
  have x0 : W0.cell? ⟨kb, 0, none⟩ = some (.int .i64 v.1) := b1.at_ 0
  have x1 : W0.cell? ⟨kb, 1, none⟩ = some (.int .i64 v.2.1) := b1.at_ 1
  have x2 : W0.cell? ⟨kb, 2, none⟩ = some (.string v.2.2) := b1.at_ 2
  clear hW0 hkb b1 bb
  rw [hx] at x0
  clear hx
  go_enter Tryz.func28, Tryz.ntmps28
  go_upto_region 1 with (fail)
  rw [HW0.out.1, HW0.out.2]
  go_wp2
  go_ret
  exact ⟨rfl, HBB.out.1⟩
set_option maxHeartbeats 1000000 in
set_option maxRecDepth 100000 in
theorem within_str (W : World) (mv av : Value) (v : Vt) (hx : v.1 = 7) (r : ByteArray) (HG : Veil (∀ W, Calls Tryz.prog 16 #[.string v.2.2] W fun e w' => e = .returned (.string r) ∧ Below W.heap.size W w')) : Calls Tryz.prog 28 #[mv, valV v, av] W fun e w' => e = .returned (.string r) ∧ Below W.heap.size W w' := by
  have b1 := Box.new W 30 #[.int .i64 v.1, .int .i64 v.2.1, .string v.2.2]
  have bb : Below W.heap.size W (W.alloc (.cells #[.int .i64 v.1, .int .i64 v.2.1, .string v.2.2] 30)) := (Below.refl _ _).alloc (Nat.le_refl _) _
  obtain ⟨kb, hkb⟩ : ∃ kb, W.heap.size = kb := ⟨_, rfl⟩
  obtain ⟨W0, hW0⟩ : ∃ W0, W.alloc (.cells #[.int .i64 v.1, .int .i64 v.2.1, .string v.2.2] 30) = W0 := ⟨_, rfl⟩
  rw [hW0] at b1 bb
  have HW0 := Veil.mk (And.intro hW0 hkb)
  rw [hkb] at b1
  have HBB := Veil.mk (And.intro bb b1)
  have x0 : W0.cell? ⟨kb, 0, none⟩ = some (.int .i64 v.1) := b1.at_ 0
  have x1 : W0.cell? ⟨kb, 1, none⟩ = some (.int .i64 v.2.1) := b1.at_ 1
  have x2 : W0.cell? ⟨kb, 2, none⟩ = some (.string v.2.2) := b1.at_ 2
  clear hW0 hkb b1 bb
  rw [hx] at x0
  clear hx
  go_enter Tryz.func28, Tryz.ntmps28
  go_upto_region 1 with (fail)
  rw [HW0.out.1, HW0.out.2]
  go_wp2_with (go_at_call 16; ((with_reducible refine (HG.out _).mono ?_); rintro e w9 ⟨rfl, hb9⟩; have HB9 := Veil.mk hb9; clear hb9))
  go_ret
  exact ⟨rfl, HBB.out.1.trans (HB9.out.mono HBB.out.1.size)⟩
set_option maxHeartbeats 1000000 in
set_option maxRecDepth 100000 in
theorem within_obj (W : World) (mv av : Value) (v : Vt) (hx : v.1 = 9) (r : ByteArray) (HG : Veil (∀ W', Below W.heap.size W W' → Calls Tryz.prog 61 #[mv, valV v, av] W' fun e w' => e = .returned (.string r) ∧ Below W'.heap.size W' w')) : Calls Tryz.prog 28 #[mv, valV v, av] W fun e w' => e = .returned (.string r) ∧ Below W.heap.size W w' := by
  have b1 := Box.new W 30 #[.int .i64 v.1, .int .i64 v.2.1, .string v.2.2]
  have bb : Below W.heap.size W (W.alloc (.cells #[.int .i64 v.1, .int .i64 v.2.1, .string v.2.2] 30)) := (Below.refl _ _).alloc (Nat.le_refl _) _
  obtain ⟨kb, hkb⟩ : ∃ kb, W.heap.size = kb := ⟨_, rfl⟩
  obtain ⟨W0, hW0⟩ : ∃ W0, W.alloc (.cells #[.int .i64 v.1, .int .i64 v.2.1, .string v.2.2] 30) = W0 := ⟨_, rfl⟩
  rw [hW0] at b1 bb
  have HW0 := Veil.mk (And.intro hW0 hkb)
  rw [hkb] at b1
  have HBB := Veil.mk (And.intro bb b1)
  have x0 : W0.cell? ⟨kb, 0, none⟩ = some (.int .i64 v.1) := b1.at_ 0
  have x1 : W0.cell? ⟨kb, 1, none⟩ = some (.int .i64 v.2.1) := b1.at_ 1
  have x2 : W0.cell? ⟨kb, 2, none⟩ = some (.string v.2.2) := b1.at_ 2
  clear hW0 hkb b1 bb
  have HG := Veil.mk (HG.out W0 HBB.out.1)
  have e7 : (v.1 == 7) = false := by rw [hx]; rfl
  have e10 : (v.1 == 10) = false := by rw [hx]; rfl
  have e8 : (v.1 == 8) = false := by rw [hx]; rfl
  have e9 : (v.1 == 9) = true := by rw [hx]; rfl
  clear hx
  go_enter Tryz.func28, Tryz.ntmps28
  go_upto_region 1 with (fail)
  rw [HW0.out.1, HW0.out.2]
  go_wp2_with (go_at_call 61; ((with_reducible refine HG.out.mono ?_); rintro e w9 ⟨rfl, hb9⟩; have HB9 := Veil.mk hb9; clear hb9))
  go_ret
  exact ⟨rfl, HBB.out.1.trans (HB9.out.mono HBB.out.1.size)⟩
end Go.Proofs.YtgdkjkfbknbgkaaGreatDoor
namespace Go.Proofs.YtgdkjkfbknbgkaaGreatDoor.W
open Go.RowKit

theorem is_2 (w : World) : Calls Tryz.prog 94 #[V 3 2 e0] w fun e w' => e = .returned (.bool true) ∧ w.alloc (bxs 3 2 e0) = w' := by
  go_enter Tryz.func94, Tryz.ntmps94
  go_wp2
  go_ret
  exact ⟨rfl, rfl⟩
theorem fmt_2 (w : World) : Calls Tryz.prog 109 #[.int .i64 2, .int .i64 10] w fun e w' => e = .returned (.string ⟨#[50]⟩) ∧ w' = w := by
  have h := Tryz.strconv_FormatInt_10_small 2 (by omega) w
  have e : Lib.decDigits 2 = [50] := by rw [Lib.decDigits, dif_pos (by omega)]; rfl
  rw [e] at h
  exact h
theorem numText_2 (w : World) : Calls Tryz.prog 95 #[V 3 2 e0] w fun e w' => e = .returned (.string ⟨#[50]⟩) ∧ w.alloc (bxs 3 2 e0) = w' := by
  go_enter Tryz.func95, Tryz.ntmps95
  go_wp2_with (first | (go_at_call 109; ((with_reducible refine (fmt_2 _).mono ?_); rintro e w' ⟨rfl, rfl⟩)))
  go_ret
  exact ⟨rfl, rfl⟩
theorem text_2 (w : World) : Calls Tryz.prog 62 #[V 3 2 e0] w fun e w' => e = .returned (.tuple #[.string ⟨#[0, 50]⟩, .int .i64 0]) ∧ Below w.heap.size w w' := by
  have c1 : Hid (ofB ⟨#[50]⟩ = [0, 50]) := by show _ = _; decide +kernel
  go_enter Tryz.func62, Tryz.ntmps62
  go_wp2_with (first | (go_at_call 94; ((with_reducible refine (is_2 _).mono ?_); rintro e w' ⟨rfl, rfl⟩)) | (go_at_call 95; ((with_reducible refine (numText_2 _).mono ?_); rintro e w' ⟨rfl, rfl⟩)) | (go_at_call 20; ((with_reducible refine (of_const _ _ (by decide) c1 _).mono ?_); rintro e w1 ⟨rfl, hb1⟩)))
  go_ret2
  exact ⟨rfl, ((((Below.refl _ _).alloc (Nat.le_refl _) _).alloc (by simp) _).alloc (by simp; omega) _).trans (hb1.mono (by simp; omega))⟩
theorem is_5 (w : World) : Calls Tryz.prog 94 #[V 3 5 e0] w fun e w' => e = .returned (.bool true) ∧ w.alloc (bxs 3 5 e0) = w' := by
  go_enter Tryz.func94, Tryz.ntmps94
  go_wp2
  go_ret
  exact ⟨rfl, rfl⟩
theorem fmt_5 (w : World) : Calls Tryz.prog 109 #[.int .i64 5, .int .i64 10] w fun e w' => e = .returned (.string ⟨#[53]⟩) ∧ w' = w := by
  have h := Tryz.strconv_FormatInt_10_small 5 (by omega) w
  have e : Lib.decDigits 5 = [53] := by rw [Lib.decDigits, dif_pos (by omega)]; rfl
  rw [e] at h
  exact h
theorem numText_5 (w : World) : Calls Tryz.prog 95 #[V 3 5 e0] w fun e w' => e = .returned (.string ⟨#[53]⟩) ∧ w.alloc (bxs 3 5 e0) = w' := by
  go_enter Tryz.func95, Tryz.ntmps95
  go_wp2_with (first | (go_at_call 109; ((with_reducible refine (fmt_5 _).mono ?_); rintro e w' ⟨rfl, rfl⟩)))
  go_ret
  exact ⟨rfl, rfl⟩
theorem text_5 (w : World) : Calls Tryz.prog 62 #[V 3 5 e0] w fun e w' => e = .returned (.tuple #[.string ⟨#[0, 53]⟩, .int .i64 0]) ∧ Below w.heap.size w w' := by
  have c1 : Hid (ofB ⟨#[53]⟩ = [0, 53]) := by show _ = _; decide +kernel
  go_enter Tryz.func62, Tryz.ntmps62
  go_wp2_with (first | (go_at_call 94; ((with_reducible refine (is_5 _).mono ?_); rintro e w' ⟨rfl, rfl⟩)) | (go_at_call 95; ((with_reducible refine (numText_5 _).mono ?_); rintro e w' ⟨rfl, rfl⟩)) | (go_at_call 20; ((with_reducible refine (of_const _ _ (by decide) c1 _).mono ?_); rintro e w1 ⟨rfl, hb1⟩)))
  go_ret2
  exact ⟨rfl, ((((Below.refl _ _).alloc (Nat.le_refl _) _).alloc (by simp) _).alloc (by simp; omega) _).trans (hb1.mono (by simp; omega))⟩
theorem is_u (w : World) : Calls Tryz.prog 94 #[V 0 0 e0] w fun e w' => e = .returned (.bool false) ∧ w.alloc (bxs 0 0 e0) = w' := by
  go_enter Tryz.func94, Tryz.ntmps94
  go_wp2
  go_ret
  exact ⟨rfl, rfl⟩
theorem text_u (w : World) : Calls Tryz.prog 62 #[V 0 0 e0] w fun e w' => e = .returned (.tuple #[.string ⟨#[0, 117, 0, 110, 0, 100, 0, 101, 0, 102, 0, 105, 0, 110, 0, 101, 0, 100]⟩, .int .i64 0]) ∧ Below w.heap.size w w' := by
  have c1 : Hid (ofB ⟨#[117, 110, 100, 101, 102, 105, 110, 101, 100]⟩ = [0, 117, 0, 110, 0, 100, 0, 101, 0, 102, 0, 105, 0, 110, 0, 101, 0, 100]) := by show _ = _; decide +kernel
  go_enter Tryz.func62, Tryz.ntmps62
  go_wp2_with (first | (go_at_call 94; ((with_reducible refine (is_u _).mono ?_); rintro e w' ⟨rfl, rfl⟩)) | (go_at_call 20; ((with_reducible refine (of_const _ _ (by decide) c1 _).mono ?_); rintro e w' ⟨rfl, hb1⟩)))
  go_ret2
  exact ⟨rfl, (((Below.refl _ _).alloc (Nat.le_refl _) _).alloc (by simp) _).trans (hb1.mono (by simp; omega))⟩
end Go.Proofs.YtgdkjkfbknbgkaaGreatDoor.W
namespace Go.Proofs.YtgdkjkfbknbgkaaGreatDoor
open Go Go.RowKit

set_option maxHeartbeats 1000000 in
set_option maxRecDepth 100000 in
theorem within_text (W : World) (mv av : Value) (v : Vt) (e7 : (v.1 == 7) = false) (e10 : (v.1 == 10) = false) (e8 : (v.1 == 8) = false) (e9 : (v.1 == 9) = false) (t r : ByteArray) (st : Int) (HT : Veil (∀ W, Calls Tryz.prog 62 #[valV v] W fun e w' => e = .returned (.tuple #[.string t, .int .i64 st]) ∧ Below W.heap.size W w')) (HG : Veil (∀ W, Calls Tryz.prog 16 #[.string t] W fun e w' => e = .returned (.string r) ∧ Below W.heap.size W w')) : Calls Tryz.prog 28 #[mv, valV v, av] W fun e w' => e = .returned (.string r) ∧ Below W.heap.size W w' := by
  have b1 := Box.new W 30 #[.int .i64 v.1, .int .i64 v.2.1, .string v.2.2]
  have bb : Below W.heap.size W (W.alloc (.cells #[.int .i64 v.1, .int .i64 v.2.1, .string v.2.2] 30)) := (Below.refl _ _).alloc (Nat.le_refl _) _
  obtain ⟨kb, hkb⟩ : ∃ kb, W.heap.size = kb := ⟨_, rfl⟩
  obtain ⟨W0, hW0⟩ : ∃ W0, W.alloc (.cells #[.int .i64 v.1, .int .i64 v.2.1, .string v.2.2] 30) = W0 := ⟨_, rfl⟩
  rw [hW0] at b1 bb
  have HW0 := Veil.mk (And.intro hW0 hkb)
  rw [hkb] at b1
  have HBB := Veil.mk (And.intro bb b1)
  have x0 : W0.cell? ⟨kb, 0, none⟩ = some (.int .i64 v.1) := b1.at_ 0
  have x1 : W0.cell? ⟨kb, 1, none⟩ = some (.int .i64 v.2.1) := b1.at_ 1
  have x2 : W0.cell? ⟨kb, 2, none⟩ = some (.string v.2.2) := b1.at_ 2
  clear hW0 hkb b1 bb
  go_enter Tryz.func28, Tryz.ntmps28
  go_upto_region 1 with (fail)
  rw [HW0.out.1, HW0.out.2]
  go_wp2_with (first | (go_at_call 62; ((with_reducible refine (HT.out _).mono ?_); rintro e w8 ⟨rfl, hb8⟩; have HB8 := Veil.mk hb8; clear hb8)) | (go_at_call 16; ((with_reducible refine (HG.out _).mono ?_); rintro e w9 ⟨rfl, hb9⟩; have HB9 := Veil.mk hb9; clear hb9)))
  go_ret
  exact ⟨rfl, (HBB.out.1.trans (HB8.out.mono HBB.out.1.size)).trans (HB9.out.mono (Nat.le_trans HBB.out.1.size HB8.out.size))⟩
theorem leaf_1 (mv av : Value) (w : World) : Calls Tryz.prog 28 #[mv, valV (3, 1, ⟨#[]⟩), av] w fun e w' => e = .returned (.string ⟨#[49]⟩) ∧ Below w.heap.size w w' :=
  within_text w mv av (3, 1, ⟨#[]⟩) rfl rfl rfl rfl ⟨#[0, 49]⟩ ⟨#[49]⟩ 0 ⟨fun w => W.text_1 w⟩ ⟨fun w => W.go_at [49] ⟨#[0, 49]⟩ ⟨#[49]⟩ ⟨by decide +kernel⟩ (by decide) (by decide) ⟨by decide +kernel⟩ w⟩
theorem leaf_2 (mv av : Value) (w : World) : Calls Tryz.prog 28 #[mv, valV (3, 2, ⟨#[]⟩), av] w fun e w' => e = .returned (.string ⟨#[50]⟩) ∧ Below w.heap.size w w' :=
  within_text w mv av (3, 2, ⟨#[]⟩) rfl rfl rfl rfl ⟨#[0, 50]⟩ ⟨#[50]⟩ 0 ⟨fun w => W.text_2 w⟩ ⟨fun w => W.go_at [50] ⟨#[0, 50]⟩ ⟨#[50]⟩ ⟨by decide +kernel⟩ (by decide) (by decide) ⟨by decide +kernel⟩ w⟩
theorem leaf_5 (mv av : Value) (w : World) : Calls Tryz.prog 28 #[mv, valV (3, 5, ⟨#[]⟩), av] w fun e w' => e = .returned (.string ⟨#[53]⟩) ∧ Below w.heap.size w w' :=
  within_text w mv av (3, 5, ⟨#[]⟩) rfl rfl rfl rfl ⟨#[0, 53]⟩ ⟨#[53]⟩ 0 ⟨fun w => W.text_5 w⟩ ⟨fun w => W.go_at [53] ⟨#[0, 53]⟩ ⟨#[53]⟩ ⟨by decide +kernel⟩ (by decide) (by decide) ⟨by decide +kernel⟩ w⟩
theorem leaf_u (mv av : Value) (w : World) : Calls Tryz.prog 28 #[mv, valV (0, 0, ⟨#[]⟩), av] w fun e w' => e = .returned (.string ⟨#[117, 110, 100, 101, 102, 105, 110, 101, 100]⟩) ∧ Below w.heap.size w w' :=
  within_text w mv av (0, 0, ⟨#[]⟩) rfl rfl rfl rfl ⟨#[0, 117, 0, 110, 0, 100, 0, 101, 0, 102, 0, 105, 0, 110, 0, 101, 0, 100]⟩ ⟨#[117, 110, 100, 101, 102, 105, 110, 101, 100]⟩ 0 ⟨fun w => W.text_u w⟩ ⟨fun w => W.go_at [117, 110, 100, 101, 102, 105, 110, 101, 100] ⟨#[0, 117, 0, 110, 0, 100, 0, 101, 0, 102, 0, 105, 0, 110, 0, 101, 0, 100]⟩ ⟨#[117, 110, 100, 101, 102, 105, 110, 101, 100]⟩ ⟨by decide +kernel⟩ (by decide) (by decide) ⟨by decide +kernel⟩ w⟩
theorem leaf_a (mv av : Value) (w : World) : Calls Tryz.prog 28 #[mv, valV (7, 0, ⟨#[0, 97]⟩), av] w fun e w' => e = .returned (.string ⟨#[97]⟩) ∧ Below w.heap.size w w' :=
  within_str w mv av (7, 0, ⟨#[0, 97]⟩) rfl ⟨#[97]⟩ ⟨fun w => W.go_at [97] ⟨#[0, 97]⟩ ⟨#[97]⟩ ⟨by decide +kernel⟩ (by decide) (by decide) ⟨by decide +kernel⟩ w⟩
end Go.Proofs.YtgdkjkfbknbgkaaGreatDoor
namespace Go.Proofs.YtgdkjkfbknbgkaaGreatDoor
open Go Go.RowKit

set_option maxHeartbeats 1000000 in
set_option maxRecDepth 100000 in
theorem printed_arr (W : World) (m o : Nat) (v : Vt) (av ev : Value) (cs : Array Value) (hb : Box W o 99 cs) (hc0 : cs[0]? = some (.int .i64 1)) (hc4 : cs[4]? = some ev) (hev : ∃ ao n c, ev = .slice ao n c) (r : ByteArray)
    (HSO : Veil (∀ W', Below W.heap.size W W' → Calls Tryz.prog 82 #[.pointer (some ⟨m, 0, none⟩), valV v] W' fun e w' => e = .returned (.pointer (some ⟨o, 0, none⟩)) ∧ Below W'.heap.size W' w'))
    (HA : Veil (∀ W', Below W.heap.size W W' → Calls Tryz.prog 93 #[.pointer (some ⟨m, 0, none⟩), ev, av] W' fun e w' => e = .returned (.string r) ∧ Below W'.heap.size W' w')) :
    Calls Tryz.prog 61 #[.pointer (some ⟨m, 0, none⟩), valV v, av] W fun e w' => e = .returned (.string r) ∧ Below W.heap.size W w' := by
  obtain ⟨ao, n, c, rfl⟩ := hev
  have b1 := Box.new W 30 #[.int .i64 v.1, .int .i64 v.2.1, .string v.2.2]
  have bb : Below W.heap.size W (W.alloc (.cells #[.int .i64 v.1, .int .i64 v.2.1, .string v.2.2] 30)) := (Below.refl _ _).alloc (Nat.le_refl _) _
  obtain ⟨kb, hkb⟩ : ∃ kb, W.heap.size = kb := ⟨_, rfl⟩
  obtain ⟨W0, hW0⟩ : ∃ W0, W.alloc (.cells #[.int .i64 v.1, .int .i64 v.2.1, .string v.2.2] 30) = W0 := ⟨_, rfl⟩
  rw [hW0] at b1 bb
  have HW0 := Veil.mk (And.intro hW0 hkb)
  rw [hkb] at b1
  have HBB := Veil.mk (And.intro bb b1)
  have x0 : W0.cell? ⟨kb, 0, none⟩ = some (.int .i64 v.1) := b1.at_ 0
  have x1 : W0.cell? ⟨kb, 1, none⟩ = some (.int .i64 v.2.1) := b1.at_ 1
  have x2 : W0.cell? ⟨kb, 2, none⟩ = some (.string v.2.2) := b1.at_ 2
  clear hW0 hkb b1 bb
  have HSO := Veil.mk (HSO.out W0 HBB.out.1)
  have HBX := Veil.mk (hb.below HBB.out.1)
  have HC := Veil.mk (And.intro hc0 hc4)
  clear hb hc0 hc4
  go_enter Tryz.func61, Tryz.ntmps61
  go_upto_region 1 with (fail)
  rw [HW0.out.1, HW0.out.2]
  go_upto_region 4 with (go_at_call 82; ((with_reducible refine HSO.out.mono ?_); rintro e w4 ⟨rfl, hb4⟩; have HB4 := Veil.mk hb4; clear hb4))
  have o0 : w4.cell? ⟨o, 0, none⟩ = some (.int .i64 1) := by rw [(HBX.out.below HB4.out).at_ 0]; exact HC.out.1
  have o4 : w4.cell? ⟨o, 4, none⟩ = some (.slice ao n c) := by rw [(HBX.out.below HB4.out).at_ 4]; exact HC.out.2
  have HA := Veil.mk (HA.out w4 (HBB.out.1.trans (HB4.out.mono HBB.out.1.size)))
  go_wp2_with (go_at_call 93; ((with_reducible refine HA.out.mono ?_); rintro e w9 ⟨rfl, hb9⟩; have HB9 := Veil.mk hb9; clear hb9))
  go_ret
  exact ⟨rfl, (HBB.out.1.trans (HB4.out.mono HBB.out.1.size)).trans (HB9.out.mono (Nat.le_trans HBB.out.1.size HB4.out.size))⟩
/-- In a machine at m, whose heap is at h: a value is an array of these. -/
def ArrAt (W : World) (h : Nat) (v : Vt) (l : List Vt) : Prop := v.1 = 9 ∧ l.length ≤ 1000000 ∧ ∃ o cs ev, (∀ W', Below W.heap.size W W' → Calls Tryz.prog 26 #[.pointer (some ⟨h, 0, none⟩), .int .i64 v.2.1] W' fun e w' => e = .returned (.pointer (some ⟨o, 0, none⟩)) ∧ w' = W') ∧ Box W o 99 cs ∧ cs[0]? = some (.int .i64 1) ∧ cs[4]? = some ev ∧ RowV W ev l
/-- What is shown of a value within 3 - k arrays. -/
def Shown (W : World) (m h : Nat) : Nat → Vt → ByteArray → Prop
  | 0, v, s => (∀ W' a, Below W.heap.size W W' → Calls Tryz.prog 28 #[.pointer (some ⟨m, 0, none⟩), valV v, .int .i64 a] W' fun e w' => e = .returned (.string s) ∧ Below W'.heap.size W' w') ∨ ((∃ l, ArrAt W h v l) ∧ s = ⟨#[91, 46, 46, 93]⟩)
  | k + 1, v, s => (∀ W' a, Below W.heap.size W W' → Calls Tryz.prog 28 #[.pointer (some ⟨m, 0, none⟩), valV v, .int .i64 a] W' fun e w' => e = .returned (.string s) ∧ Below W'.heap.size W' w') ∨ ∃ l parts, ArrAt W h v l ∧ parts.length = l.length ∧ (Lib.join (parts.map (·.data.toList)) [44, 32]).length ≤ 140737488355328 ∧ (∀ (i : Nat) x p, l[i]? = some x → parts[i]? = some p → Shown W m h k x p) ∧ s = arrS parts
theorem within_shown {W : World} {m h : Nat} (hm : W.cell? ⟨m, 0, none⟩ = some (.pointer (some ⟨h, 0, none⟩))) (hml : m < W.heap.size) : ∀ (k : Nat), k ≤ 3 → ∀ v s, Shown W m h k v s → ∀ W', Below W.heap.size W W' → Calls Tryz.prog 28 #[.pointer (some ⟨m, 0, none⟩), valV v, .int .i64 (((3 - k : Nat) : Int))] W' fun e w' => e = .returned (.string s) ∧ Below W'.heap.size W' w' := by
  have key : ∀ v l (r : ByteArray) av, ArrAt W h v l → (∀ W' ev, RowV W ev l → Below W.heap.size W W' → Calls Tryz.prog 93 #[.pointer (some ⟨m, 0, none⟩), ev, av] W' fun e w' => e = .returned (.string r) ∧ Below W'.heap.size W' w') → ∀ W', Below W.heap.size W W' → Calls Tryz.prog 28 #[.pointer (some ⟨m, 0, none⟩), valV v, av] W' fun e w' => e = .returned (.string r) ∧ Below W'.heap.size W' w' := by
    rintro v l r av ⟨h9, -, o, cs, ev, hob, hbx, h0, h4, hrow⟩ HA W' hb
    refine within_obj W' _ av v h9 r ⟨fun W2 hb2 => ?_⟩
    have hbb := hb.trans (hb2.mono hb.size)
    refine printed_arr W2 m o v av ev cs (hbx.below hbb) h0 h4 (by obtain ⟨ao, cap, e, -⟩ := hrow; exact ⟨_, _, _, e⟩) r ⟨fun W3 hb3 => ?_⟩ ⟨fun W3 hb3 => HA W3 ev hrow (hbb.trans (hb3.mono hbb.size))⟩
    have hb4 := hbb.trans (hb3.mono hbb.size)
    refine object_yes (W := W3) m h v (by rw [hb4.cell (p := ⟨m, 0, none⟩) hml]; exact hm) (Nat.lt_of_lt_of_le hml hb4.size) o ⟨fun W5 hb5 => ?_⟩
    exact of_yes h o v h9 W5 ⟨fun W6 hb6 => hob W6 ((hb4.trans (hb5.mono hb4.size)).trans (hb6.mono (Nat.le_trans hb4.size hb5.size)))⟩
  intro k
  induction k with
  | zero =>
    intro _ v s hs W' hb
    rcases hs with hs | ⟨⟨l, hl⟩, rfl⟩
    · exact hs W' _ hb
    · exact key v l _ _ hl (fun W2 ev _ hb2 => (array_deep _ ev W2).mono (fun e w' ⟨he, hw⟩ => ⟨he, hw ▸ Below.refl _ _⟩)) W' hb
  | succ k ih =>
    intro hk v s hs W' hb
    rcases hs with hs | ⟨l, parts, hl, hpl, hsz, hsh, rfl⟩
    · exact hs W' _ hb
    · refine key v l _ _ hl (fun W2 ev hrow hb2 => ?_) W' hb
      refine array_shown _ ev (3 - (k + 1)) (by omega) l parts hpl hl.2.1 W2 (hrow.on hb2) hsz (fun i x p hi hp W3 hb3 => ?_)
      have := ih (by omega) x p (hsh i x p hi hp) W3 (hb2.trans (hb3.mono hb2.size))
      rw [show ((3 - (k + 1) : Nat) : Int) + 1 = ((3 - k : Nat) : Int) by omega]
      exact this
set_option maxHeartbeats 1000000 in
set_option maxRecDepth 100000 in
theorem show_shown {W : World} {m h : Nat} (hm : W.cell? ⟨m, 0, none⟩ = some (.pointer (some ⟨h, 0, none⟩))) (hml : m < W.heap.size) (v : Vt) (s : ByteArray) (hs : Shown W m h 3 v s) : Calls Tryz.prog 11 #[.pointer (some ⟨m, 0, none⟩), valV v] W fun e w' => e = .returned (.string s) ∧ Below W.heap.size W w' := by
  have HWI : Veil (∀ W', Below W.heap.size W W' → Calls Tryz.prog 28 #[.pointer (some ⟨m, 0, none⟩), valV v, .int .i64 0] W' fun e w' => e = .returned (.string s) ∧ Below W'.heap.size W' w') := ⟨fun W' hb => within_shown hm hml 3 (Nat.le_refl _) v s hs W' hb⟩
  clear hm hml hs
  have b1 := Box.new W 30 #[.int .i64 v.1, .int .i64 v.2.1, .string v.2.2]
  have bb : Below W.heap.size W (W.alloc (.cells #[.int .i64 v.1, .int .i64 v.2.1, .string v.2.2] 30)) := (Below.refl _ _).alloc (Nat.le_refl _) _
  obtain ⟨kb, hkb⟩ : ∃ kb, W.heap.size = kb := ⟨_, rfl⟩
  obtain ⟨W0, hW0⟩ : ∃ W0, W.alloc (.cells #[.int .i64 v.1, .int .i64 v.2.1, .string v.2.2] 30) = W0 := ⟨_, rfl⟩
  rw [hW0] at b1 bb
  have HW0 := Veil.mk (And.intro hW0 hkb)
  rw [hkb] at b1
  have HBB := Veil.mk (And.intro bb b1)
  have x0 : W0.cell? ⟨kb, 0, none⟩ = some (.int .i64 v.1) := b1.at_ 0
  have x1 : W0.cell? ⟨kb, 1, none⟩ = some (.int .i64 v.2.1) := b1.at_ 1
  have x2 : W0.cell? ⟨kb, 2, none⟩ = some (.string v.2.2) := b1.at_ 2
  clear hW0 hkb b1 bb
  go_enter Tryz.func11, Tryz.ntmps11
  go_upto_region 1 with (fail)
  rw [HW0.out.1, HW0.out.2]
  have HWI := Veil.mk (HWI.out W0 HBB.out.1)
  go_wp2_with (go_at_call 28; ((with_reducible refine HWI.out.mono ?_); rintro e w9 ⟨rfl, hb9⟩; have HB9 := Veil.mk hb9; clear hb9))
  go_ret
  exact ⟨rfl, HBB.out.1.trans (HB9.out.mono HBB.out.1.size)⟩
theorem MM.arrAt {W : World} {h A m : Nat} {f : Nat → Int} {os : List OS} (H : MM W h A m f os) (i : Nat) (b : Nat) (cs : Array Value) (ho : os[i]? = some (b, cs)) (h0 : cs[0]? = some (.int .i64 1)) (ev : Value) (h4 : cs[4]? = some ev) (l : List Vt) (hr : RowV W ev l) (hl : l.length ≤ 1000000) (s : ByteArray) : ArrAt W h (9, (i : Int) + 1, s) l :=
  ⟨rfl, hl, b, cs, ev, fun _ hb => (H.on hb).obj i (b, cs) ho, H.ob (b, cs) (List.mem_of_getElem? ho), h0, h4, hr⟩
end Go.Proofs.YtgdkjkfbknbgkaaGreatDoor
namespace Go.Proofs.YtgdkjkfbknbgkaaGreatDoor
open Go Go.RowKit

theorem one_row (W : World) (v : Vt) : RowV (W.alloc (.cells #[.int .i64 v.1, .int .i64 v.2.1, .string v.2.2] 30)) (.slice (some ⟨W.heap.size, 0, none⟩) 1 1) [v] := RowV.box [v] 1 rfl (Box.new W 30 _)
theorem three_row (W : World) (a b c : Vt) : RowV (W.alloc (.cells #[.int .i64 a.1, .int .i64 a.2.1, .string a.2.2, .int .i64 b.1, .int .i64 b.2.1, .string b.2.2, .int .i64 c.1, .int .i64 c.2.1, .string c.2.2] 30)) (.slice (some ⟨W.heap.size, 0, none⟩) 3 3) [a, b, c] := RowV.box [a, b, c] 3 rfl (Box.new W 30 _)
theorem val_a (w : World) : Calls Tryz.prog 23 #[.string ⟨#[97]⟩] w fun e w' => e = .returned (valV (7, 0, ⟨#[0, 97]⟩)) ∧ Below w.heap.size w w' :=
  W.val_const _ [0, 97] (by decide) (show Hid _ from (by decide +kernel : W.ofB ⟨#[97]⟩ = [0, 97])) w
theorem kp3 {i : Nat} {P : Nat → Prop} (hi : i < 3) (h0 : P 0) (h1 : P 1) (h2 : P 2) : P i := by
  match i, hi with
  | 0, _ => exact h0
  | 1, _ => exact h1
  | 2, _ => exact h2
theorem shown_leaf {W : World} {m h k : Nat} {v : Vt} {s : ByteArray} (H : ∀ (mv av : Value) (w : World), Calls Tryz.prog 28 #[mv, valV v, av] w fun e w' => e = .returned (.string s) ∧ Below w.heap.size w w') : Shown W m h k v s := by
  cases k with
  | zero => exact .inl fun W' a _ => H _ _ W'
  | succ k => exact .inl fun W' a _ => H _ _ W'
theorem shown_arr1 {W : World} {m h k : Nat} {v x : Vt} {s r : ByteArray} (ha : ArrAt W h v [x]) (hx : Shown W m h k x s) (hsz : s.size ≤ 1000) (hr : r = arrS [s]) : Shown W m h (k + 1) v r := by
  refine .inr ⟨[x], [s], ha, rfl, ?_, fun i y p h1 h2 => ?_, hr⟩
  · show (Lib.join [s.data.toList] [44, 32]).length ≤ _
    rw [Lib.join_one]
    have : s.data.toList.length = s.size := by simp
    omega
  · match i, h1, h2 with
    | 0, h1, h2 => cases h1; cases h2; exact hx
theorem shown_arr3 {W : World} {m h k : Nat} {v x y z : Vt} {s t u r : ByteArray} (ha : ArrAt W h v [x, y, z]) (hx : Shown W m h k x s) (hy : Shown W m h k y t) (hz : Shown W m h k z u) (hsz : (Lib.join [s.data.toList, t.data.toList, u.data.toList] [44, 32]).length ≤ 1000) (hr : r = arrS [s, t, u]) : Shown W m h (k + 1) v r := by
  refine .inr ⟨[x, y, z], [s, t, u], ha, rfl, ?_, fun i a p h1 h2 => ?_, hr⟩
  · show (Lib.join [s.data.toList, t.data.toList, u.data.toList] [44, 32]).length ≤ _
    omega
  · match i, h1, h2 with
    | 0, h1, h2 => cases h1; cases h2; exact hx
    | 1, h1, h2 => cases h1; cases h2; exact hy
    | 2, h1, h2 => cases h1; cases h2; exact hz
theorem MM.cell0 {W : World} {h A m : Nat} {f : Nat → Int} {os : List OS} (H : MM W h A m f os) : W.cell? ⟨m, 0, none⟩ = some (.pointer (some ⟨h, 0, none⟩)) := H.mb.at_ 0
theorem MM.last {W : World} {h A m : Nat} {f : Nat → Int} {os : List OS} {b : Nat} {ev : Value} {p : Int} {l : List Vt} (H : MM W h A m f (os ++ [(b, objC 1 p false (.pointer none) ev)])) (hr : RowV W ev l) (hl : l.length ≤ 1000000) : ArrAt W h (9, (os.length : Int) + 1, ⟨#[]⟩) l :=
  H.arrAt os.length b (objC 1 p false (.pointer none) ev) (by simp) rfl ev rfl l hr hl _
set_option maxHeartbeats 4000000 in
set_option maxRecDepth 100000 in
theorem fit_any (w : World) : Calls Tryz.prog 7 #[] w fun e w' => e = .returned (.bool true) ∧ Below w.heap.size w w' := by
  have HM := Veil.mk (machine_any w)
  go_enter Tryz.func7, Tryz.ntmps7
  go_upto_region 2 with (go_at_call 9; ((with_reducible refine HM.out.mono ?_); rintro e w1 ⟨h, A, m, os, rfl, hp⟩))
  have HP := Veil.mk hp
  clear hp HM
  obtain ⟨W1, hW1⟩ : ∃ W1, w1.alloc (.cells #[.int .i64 3, .int .i64 2, .string ⟨#[]⟩] 30) = W1 := ⟨_, rfl⟩
  have hr1 := one_row w1 (3, 2, ⟨#[]⟩)
  have hb1 : Below w1.heap.size w1 (w1.alloc (.cells #[.int .i64 3, .int .i64 2, .string ⟨#[]⟩] 30)) := (Below.refl _ _).alloc (Nat.le_refl _) _
  have HA1 := Veil.mk ((HP.out.mm.on hb1).array _ [(3, 2, ⟨#[]⟩)] hr1 (by decide) (by rw [HP.out.len]; decide))
  have HB1 := Veil.mk hb1
  clear hb1 hr1 hW1
  go_upto_region 5 with (first | (go_at_call 24; ((with_reducible refine HA1.out.mono ?_); rintro e w2 ⟨rfl, b1, ev1, -, hm2, hr2, hb2, hk2, -, -⟩; have H2 := Veil.mk (And.intro hm2 (And.intro hr2 (And.intro hb2 hk2))); clear hm2 hr2 hb2 hk2)) | (go_at_call 23; ((with_reducible refine (val_a _).mono ?_); rintro e w3 ⟨rfl, hb3⟩; go_loud (have HB3 := Veil.mk hb3; have HA2 := Veil.mk (((H2.out.1.on hb3).on ((Below.refl _ _).alloc (Nat.le_refl _) _)).array _ [(3, 1, ⟨#[]⟩), (9, (os.length : Int) + 1, ⟨#[]⟩), (7, 0, ⟨#[0, 97]⟩)] (three_row w3 (3, 1, ⟨#[]⟩) (9, (os.length : Int) + 1, ⟨#[]⟩) (7, 0, ⟨#[0, 97]⟩)) (by show 3 ≤ 10000; omega) (by rw [List.length_append, HP.out.len]; show 22 < 1000000; omega)); clear hb3))) | (go_at_call 24; ((with_reducible refine HA2.out.mono ?_); rintro e w4 ⟨rfl, b2, ev2, -, hm4, hr4, hb4, hk4, -, -⟩; have H4 := Veil.mk (And.intro hm4 (And.intro hr4 (And.intro hb4 hk4))); clear hm4 hr4 hb4 hk4)))
  have H5 : Veil (∀ W, Below w4.heap.size w4 W → Shown W m h 3 (9, ((os ++ [(b1, objC 1 (prF 21 2) false (.pointer none) ev1)]).length : Int) + 1, ⟨#[]⟩) ⟨#[91, 49, 44, 32, 91, 50, 93, 44, 32, 97, 93]⟩) := ⟨fun W hb => by
    have hm := H4.out.1.on hb
    have h1 : RowV w4 ev1 [(3, 2, ⟨#[]⟩)] := ((H2.out.2.1.on HB3.out).on ((Below.refl _ _).alloc (Nat.le_refl _) _)).kp H4.out.2.2.2 rfl
    have a1 : ArrAt W h (9, (os.length : Int) + 1, ⟨#[]⟩) [(3, 2, ⟨#[]⟩)] := hm.arrAt os.length b1 (objC 1 (prF 21 2) false (.pointer none) ev1) (by simp) rfl ev1 rfl _ (h1.on hb) (by show 1 ≤ 1000000; omega) _
    have a2 := hm.last (H4.out.2.1.on hb) (by show 3 ≤ 1000000; omega)
    exact shown_arr3 a2 (shown_leaf (s := ⟨#[49]⟩) leaf_1) (shown_arr1 a1 (shown_leaf (s := ⟨#[50]⟩) leaf_2) (by decide) (r := ⟨#[91, 50, 93]⟩) (by decide +kernel)) (shown_leaf (s := ⟨#[97]⟩) leaf_a) (by decide +kernel) (by decide +kernel)⟩
  have eL : (((os ++ [(b1, objC 1 (prF 21 2) false (.pointer none) ev1)]).length : Nat) : Int) + 1 = (os.length : Int) + 1 + 1 := by rw [List.length_append]; show ((os.length + 1 : Nat) : Int) + 1 = _; omega
  rw [eL] at H5
  have hal : Below w4.heap.size w4 (w4.alloc (.cells #[.int .i64 9, .int .i64 ((os.length : Int) + 1 + 1), .string ⟨#[]⟩] 30)) := (Below.refl _ _).alloc (Nat.le_refl _) _
  have HSH := Veil.mk (show_shown (H4.out.1.on hal).cell0 (H4.out.1.on hal).mb.lt _ _ (H5.out _ hal))
  have HBW : Veil (Below w.heap.size w (w4.alloc (.cells #[.int .i64 9, .int .i64 ((os.length : Int) + 1 + 1), .string ⟨#[]⟩] 30))) := ⟨by
    have g1 := HP.out.bel.trans (HB1.out.mono HP.out.bel.size)
    have g2 := g1.trans (H2.out.2.2.1.mono HP.out.lo)
    have g3 := g2.trans (HB3.out.mono g2.size)
    have g4 := g3.trans (((Below.refl w3.heap.size w3).alloc (Nat.le_refl _) (.cells (flatV [(3, 1, ⟨#[]⟩), (9, (os.length : Int) + 1, ⟨#[]⟩), (7, 0, ⟨#[0, 97]⟩)]).toArray 30)).mono g3.size)
    have g5 := g4.trans (H4.out.2.2.1.mono HP.out.lo)
    exact g5.trans (hal.mono g5.size)⟩
  clear hal eL H5 HA1 HA2 HB1 H2 HB3 H4
  go_wp2_with (go_at_call 11; ((with_reducible refine HSH.out.mono ?_); rintro e w9 ⟨rfl, hb9⟩))
  go_ret
  exact ⟨rfl, HBW.out.trans (hb9.mono HBW.out.size)⟩
end Go.Proofs.YtgdkjkfbknbgkaaGreatDoor
