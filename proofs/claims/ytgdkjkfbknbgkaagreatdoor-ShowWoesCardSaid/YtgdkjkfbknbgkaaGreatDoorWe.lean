/- The laws' common start, and Of at short texts. -/
import Derived.Test.YtgdkjkfbknbgkaaGreatDoorWd
import Derived.Test.YtgdkjkfbknbgkaaGreatDoorShelf
import Derived.Laws.StructEq
namespace Go.Proofs.YtgdkjkfbknbgkaaGreatDoor.W
open Go.RowKit

theorem of_const (s : ByteArray) (r : List UInt8) (hs : s.size ≤ 16777216) (h : Hid (ofB s = r)) (w : World) :
    Calls Tryz.prog 20 #[.string s] w fun e w' => e = .returned (.string ⟨r.toArray⟩) ∧ Below w.heap.size w w' :=
  (of_any s hs w).mono fun _ _ he => by rw [h.out] at he; exact he
theorem index_at (s : ByteArray) (n : Int) (hs : s.size ≤ 16777216) (h : Hid (idxU (unitsS s) = n)) (w : World) :
    Calls Tryz.prog 86 #[.string s] w fun e w' => e = .returned (.int .i64 n) ∧ Below w.heap.size w w' :=
  (index_any s hs w).mono fun _ _ ⟨he, k, hw⟩ => by rw [h.out] at he; exact ⟨he, hw ▸ below_drewN (Below.refl _ _) k⟩
theorem blw_call {B : Nat} {w w1 w2 : World} (h : Below B w w1) (h2 : Below w1.heap.size w1 w2) (hB : B ≤ w.heap.size) : Below B w w2 := h.trans (h2.mono (by have := h.size; omega))

theorem blw2 {w w1 w2 : World} (h : Below w.heap.size w w1) (h2 : Below w1.heap.size w1 w2) : Below w.heap.size w w2 := h.trans (h2.mono h.size)
/-- A text of ASCII bytes: each is a unit. -/
theorem ofFrom_ascii (s : ByteArray) : ∀ (f p : Nat), s.size ≤ p + f → (∀ i (h : i < s.size), s[i].toNat < 128) → ofFrom s f p = (s.data.toList.drop p).flatMap (fun b => [0, b])
  | 0, p, hf, _ => by
    rw [List.drop_of_length_le (by simpa using hf)]; rfl
  | f + 1, p, hf, ha => by
    by_cases hp : p < s.size
    · rw [ofFrom_step s f p hp, decode_ascii s p hp (ha p hp), ofFrom_ascii s f (p + 1) (by omega) ha]
      have hl : p < s.data.toList.length := by simpa using hp
      rw [List.drop_eq_getElem_cons hl, List.flatMap_cons]
      have e : ofR s[p].toNat = [0, s[p]] := by
        have h1 := ha p hp
        unfold ofR u2
        rw [if_pos (by omega)]
        have h2 : s[p].toNat / 256 = 0 := by omega
        rw [h2]; simp
      rw [e]; rfl
    · rw [ofFrom_end s _ p hp, List.drop_of_length_le (by simp; omega)]; rfl
theorem ofB_ascii (l : List UInt8) (ha : ∀ b ∈ l, b.toNat < 128) : ofB ⟨l.toArray⟩ = l.flatMap (fun b => [0, b]) := by
  unfold ofB
  rw [ofFrom_ascii _ _ _ (by omega) (fun i h => ha _ (by simp [ByteArray.getElem_eq_getElem_data]))]
  simp
theorem units_ascii : ∀ (l : List UInt8), units (l.flatMap (fun b => [0, b])) = l.map (fun b => b.toNat)
  | [] => rfl
  | b :: r => by
    have := units_ascii r
    simp only [List.flatMap_cons, List.map_cons]
    show units (0 :: b :: r.flatMap (fun b => [0, b])) = _
    simp [units, this]
theorem unitsS_ofB (l : List UInt8) (ha : ∀ b ∈ l, b.toNat < 128) : unitsS ⟨(ofB ⟨l.toArray⟩).toArray⟩ = l.map (fun b => b.toNat) := by
  unfold unitsS; rw [ofB_ascii l ha]; simpa using units_ascii l
theorem val_any (s : ByteArray) (hs : s.size ≤ 16777216) (w : World) :
    Calls Tryz.prog 23 #[.string s] w fun e w' => e = .returned (.agg #[.int .i64 7, .int .i64 0, .string ⟨(ofB s).toArray⟩]) ∧ Below w.heap.size w w' := by
  go_enter Tryz.func23, Tryz.ntmps23
  go_wp2_with (first | (go_at_call 20; ((with_reducible refine (of_any _ (by assumption) _).mono ?_); rintro e wx ⟨rfl, hbx⟩; refine Hid.out ?_)))
  obtain ⟨hc, hf⟩ : (∀ o, wx.cell? ⟨w.heap.size, o, none⟩ = (w.alloc (.cells #[.int .i64 0, .int .i64 0, .string ⟨#[]⟩] 30)).cell? ⟨w.heap.size, o, none⟩) ∧ (∀ o, wx.frozen? ⟨w.heap.size, o, none⟩ = (w.alloc (.cells #[.int .i64 0, .int .i64 0, .string ⟨#[]⟩] 30)).frozen? ⟨w.heap.size, o, none⟩) :=
    ⟨fun o => hbx.cell (p := ⟨w.heap.size, o, none⟩) (by simp), fun o => hbx.frozen (p := ⟨w.heap.size, o, none⟩) (by simp)⟩
  have hB : Below w.heap.size w wx := ((Below.refl _ _).alloc (Nat.le_refl _) _).trans (hbx.mono (by simp))
  have hz : w.heap.size < wx.heap.size := by have := hbx.size; simp at this; omega
  refine Lib.hid ?_
  go_wp2
  refine bodyPost_ret (v := .agg #[.int .i64 7, .int .i64 0, .string ⟨(ofB s).toArray⟩]) (by simp [results, Tryz.results23, go_sem, hc]) rfl ⟨rfl, ?_⟩
  exact ((hB.setCell (p := ⟨_, 0, none⟩) (Nat.le_refl _) _).setCell (p := ⟨_, 1, none⟩) (Nat.le_refl _) _).setCell (p := ⟨_, 2, none⟩) (Nat.le_refl _) _

theorem val_const (s : ByteArray) (r : List UInt8) (hs : s.size ≤ 16777216) (h : Hid (ofB s = r)) (w : World) :
    Calls Tryz.prog 23 #[.string s] w fun e w' => e = .returned (.agg #[.int .i64 7, .int .i64 0, .string ⟨r.toArray⟩]) ∧ Below w.heap.size w w' :=
  (val_any s hs w).mono fun _ _ he => by rw [h.out] at he; exact he
theorem bcell {W w1 : World} (hb : Below W.heap.size W w1) : (∀ b o, b < W.heap.size → w1.cell? ⟨b, o, none⟩ = W.cell? ⟨b, o, none⟩) ∧ (∀ b o, b < W.heap.size → w1.frozen? ⟨b, o, none⟩ = W.frozen? ⟨b, o, none⟩) :=
  ⟨fun b o h => hb.cell (p := ⟨b, o, none⟩) h, fun b o h => hb.frozen (p := ⟨b, o, none⟩) h⟩

/-- A value of package api. -/
abbrev V (k n : Int) (s : ByteArray) : Value := .agg #[.int .i64 k, .int .i64 n, .string s]
/-- The block in which such a value lies. -/
abbrev bxs (k n : Int) (s : ByteArray) : Obj := .cells #[.int .i64 k, .int .i64 n, .string s] 30
abbrev e0 : ByteArray := ⟨#[]⟩

theorem is_0 (w : World) : Calls Tryz.prog 94 #[V 3 0 e0] w fun e w' => e = .returned (.bool true) ∧ w.alloc (bxs 3 0 e0) = w' := by
  go_enter Tryz.func94, Tryz.ntmps94
  go_wp2
  go_ret
  exact ⟨rfl, rfl⟩
theorem fmt_0 (w : World) : Calls Tryz.prog 109 #[.int .i64 0, .int .i64 10] w fun e w' => e = .returned (.string ⟨#[48]⟩) ∧ w' = w := by
  have h := Tryz.strconv_FormatInt_10_small 0 (by omega) w
  have e : Lib.decDigits 0 = [48] := by rw [Lib.decDigits, dif_pos (by omega)]; rfl
  rw [e] at h
  exact h
theorem numText_0 (w : World) : Calls Tryz.prog 95 #[V 3 0 e0] w fun e w' => e = .returned (.string ⟨#[48]⟩) ∧ w.alloc (bxs 3 0 e0) = w' := by
  go_enter Tryz.func95, Tryz.ntmps95
  go_wp2_with (first | (go_at_call 109; ((with_reducible refine (fmt_0 _).mono ?_); rintro e w' ⟨rfl, rfl⟩)))
  go_ret
  exact ⟨rfl, rfl⟩
theorem text_0 (w : World) : Calls Tryz.prog 62 #[V 3 0 e0] w fun e w' => e = .returned (.tuple #[.string ⟨#[0, 48]⟩, .int .i64 0]) ∧ Below w.heap.size w w' := by
  have c1 : Hid (ofB ⟨#[48]⟩ = [0, 48]) := by show _ = _; decide +kernel
  go_enter Tryz.func62, Tryz.ntmps62
  go_wp2_with (first | (go_at_call 94; ((with_reducible refine (is_0 _).mono ?_); rintro e w' ⟨rfl, rfl⟩)) | (go_at_call 95; ((with_reducible refine (numText_0 _).mono ?_); rintro e w' ⟨rfl, rfl⟩)) | (go_at_call 20; ((with_reducible refine (of_const _ _ (by decide) c1 _).mono ?_); rintro e w1 ⟨rfl, hb1⟩)))
  go_ret2
  exact ⟨rfl, ((((Below.refl _ _).alloc (Nat.le_refl _) _).alloc (by simp) _).alloc (by simp; omega) _).trans (hb1.mono (by simp; omega))⟩
theorem is_1 (w : World) : Calls Tryz.prog 94 #[V 3 1 e0] w fun e w' => e = .returned (.bool true) ∧ w.alloc (bxs 3 1 e0) = w' := by
  go_enter Tryz.func94, Tryz.ntmps94
  go_wp2
  go_ret
  exact ⟨rfl, rfl⟩
theorem fmt_1 (w : World) : Calls Tryz.prog 109 #[.int .i64 1, .int .i64 10] w fun e w' => e = .returned (.string ⟨#[49]⟩) ∧ w' = w := by
  have h := Tryz.strconv_FormatInt_10_small 1 (by omega) w
  have e : Lib.decDigits 1 = [49] := by rw [Lib.decDigits, dif_pos (by omega)]; rfl
  rw [e] at h
  exact h
theorem numText_1 (w : World) : Calls Tryz.prog 95 #[V 3 1 e0] w fun e w' => e = .returned (.string ⟨#[49]⟩) ∧ w.alloc (bxs 3 1 e0) = w' := by
  go_enter Tryz.func95, Tryz.ntmps95
  go_wp2_with (first | (go_at_call 109; ((with_reducible refine (fmt_1 _).mono ?_); rintro e w' ⟨rfl, rfl⟩)))
  go_ret
  exact ⟨rfl, rfl⟩
theorem text_1 (w : World) : Calls Tryz.prog 62 #[V 3 1 e0] w fun e w' => e = .returned (.tuple #[.string ⟨#[0, 49]⟩, .int .i64 0]) ∧ Below w.heap.size w w' := by
  have c1 : Hid (ofB ⟨#[49]⟩ = [0, 49]) := by show _ = _; decide +kernel
  go_enter Tryz.func62, Tryz.ntmps62
  go_wp2_with (first | (go_at_call 94; ((with_reducible refine (is_1 _).mono ?_); rintro e w' ⟨rfl, rfl⟩)) | (go_at_call 95; ((with_reducible refine (numText_1 _).mono ?_); rintro e w' ⟨rfl, rfl⟩)) | (go_at_call 20; ((with_reducible refine (of_const _ _ (by decide) c1 _).mono ?_); rintro e w1 ⟨rfl, hb1⟩)))
  go_ret2
  exact ⟨rfl, ((((Below.refl _ _).alloc (Nat.le_refl _) _).alloc (by simp) _).alloc (by simp; omega) _).trans (hb1.mono (by simp; omega))⟩
end Go.Proofs.YtgdkjkfbknbgkaaGreatDoor.W
