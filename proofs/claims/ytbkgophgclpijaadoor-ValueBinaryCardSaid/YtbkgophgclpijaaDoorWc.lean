/- Len, Join, Val of package text at this program; short texts. -/
import Derived.Test.YtbkgophgclpijaaDoorWb
import Derived.Test.YtbkgophgclpijaaDoorShelf
import Derived.Laws.StructEq
namespace Go.Proofs.YtbkgophgclpijaaDoor.W
open Go.RowKit

theorem len_any (s : ByteArray) (hs : s.size ≤ 16777216) (w : World) :
    Calls Tryd.prog 74 #[.string s] w fun e w' => e = .returned (.int .i64 ((s.size : Int) / 2)) ∧ w = w' := by
  go_enter Tryd.func74, Tryd.ntmps74
  go_wp2
  go_ret
  exact ⟨rfl, rfl⟩

theorem join_in (a b : ByteArray) (ha : a.size ≤ 16777216) (hb : b.size ≤ 16777216) (h : a.size / 2 + b.size / 2 ≤ 65536) (w : World) :
    Calls Tryd.prog 58 #[.string a, .string b] w fun e w' => e = .returned (.tuple #[.string (a ++ b), .bool true]) ∧ w = w' := by
  have h' : ¬ (65536 : Int) < (a.size : Int) / 2 + (b.size : Int) / 2 := by omega
  go_enter Tryd.func58, Tryd.ntmps58
  go_wp2_with (first | (go_at_call 74; ((with_reducible refine (len_any _ (by assumption) _).mono ?_); rintro e w' ⟨rfl, rfl⟩)))
  go_ret2
  exact ⟨rfl, rfl⟩
theorem cell_later {B b o : Nat} {w w1 : World} {v : Value} (hb : Below B w w1) (h : w.cell? ⟨b, o, none⟩ = some v) (hB : w.heap.size ≤ B) : w1.cell? ⟨b, o, none⟩ = some v := by
  rw [hb.cell (p := ⟨b, o, none⟩) (by have := World.block_lt_of_cell? _ _ h; simp at this ⊢; omega)]; exact h
theorem val_any (s : ByteArray) (hs : s.size ≤ 16777216) (w : World) :
    Calls Tryd.prog 30 #[.string s] w fun e w' => e = .returned (.agg #[.int .i64 7, .int .i64 0, .string ⟨(ofB s).toArray⟩]) ∧ Below w.heap.size w w' := by
  go_enter Tryd.func30, Tryd.ntmps30
  go_wp2_with (first | (go_at_call 50; ((with_reducible refine (of_any _ (by assumption) _).mono ?_); rintro e wx ⟨rfl, hbx⟩; refine Hid.out ?_)))
  obtain ⟨hc, hf⟩ : (∀ o, wx.cell? ⟨w.heap.size, o, none⟩ = (w.alloc (.cells #[.int .i64 0, .int .i64 0, .string ⟨#[]⟩] 27)).cell? ⟨w.heap.size, o, none⟩) ∧ (∀ o, wx.frozen? ⟨w.heap.size, o, none⟩ = (w.alloc (.cells #[.int .i64 0, .int .i64 0, .string ⟨#[]⟩] 27)).frozen? ⟨w.heap.size, o, none⟩) :=
    ⟨fun o => hbx.cell (p := ⟨w.heap.size, o, none⟩) (by simp), fun o => hbx.frozen (p := ⟨w.heap.size, o, none⟩) (by simp)⟩
  have hB : Below w.heap.size w wx := ((Below.refl _ _).alloc (Nat.le_refl _) _).trans (hbx.mono (by simp))
  have hz : w.heap.size < wx.heap.size := by have := hbx.size; simp at this; omega
  refine Lib.hid ?_
  go_wp2
  refine bodyPost_ret (v := .agg #[.int .i64 7, .int .i64 0, .string ⟨(ofB s).toArray⟩]) (by simp [results, Tryd.results30, go_sem, hc]) rfl ⟨rfl, ?_⟩
  exact ((hB.setCell (p := ⟨_, 0, none⟩) (Nat.le_refl _) _).setCell (p := ⟨_, 1, none⟩) (Nat.le_refl _) _).setCell (p := ⟨_, 2, none⟩) (Nat.le_refl _) _

theorem of_const (s : ByteArray) (r : List UInt8) (hs : s.size ≤ 16777216) (h : Hid (ofB s = r)) (w : World) :
    Calls Tryd.prog 50 #[.string s] w fun e w' => e = .returned (.string ⟨r.toArray⟩) ∧ Below w.heap.size w w' :=
  (of_any s hs w).mono fun _ _ he => by rw [h.out] at he; exact he
theorem val_const (s : ByteArray) (r : List UInt8) (hs : s.size ≤ 16777216) (h : Hid (ofB s = r)) (w : World) :
    Calls Tryd.prog 30 #[.string s] w fun e w' => e = .returned (.agg #[.int .i64 7, .int .i64 0, .string ⟨r.toArray⟩]) ∧ Below w.heap.size w w' :=
  (val_any s hs w).mono fun _ _ he => by rw [h.out] at he; exact he
theorem blw2 {w w1 w2 : World} (h : Below w.heap.size w w1) (h2 : Below w1.heap.size w1 w2) : Below w.heap.size w w2 := h.trans (h2.mono h.size)
theorem bcell {W w1 : World} (hb : Below W.heap.size W w1) : (∀ b o, b < W.heap.size → w1.cell? ⟨b, o, none⟩ = W.cell? ⟨b, o, none⟩) ∧ (∀ b o, b < W.heap.size → w1.frozen? ⟨b, o, none⟩ = W.frozen? ⟨b, o, none⟩) :=
  ⟨fun b o h => hb.cell (p := ⟨b, o, none⟩) h, fun b o h => hb.frozen (p := ⟨b, o, none⟩) h⟩

/-- A value of package api. -/
abbrev V (k n : Int) (s : ByteArray) : Value := .agg #[.int .i64 k, .int .i64 n, .string s]
/-- The block in which such a value lies. -/
abbrev bxs (k n : Int) (s : ByteArray) : Obj := .cells #[.int .i64 k, .int .i64 n, .string s] 27
abbrev e0 : ByteArray := ⟨#[]⟩

theorem is_one (w : World) : Calls Tryd.prog 46 #[V 3 1 e0] w fun e w' => e = .returned (.bool true) ∧ w.alloc (bxs 3 1 e0) = w' := by
  go_enter Tryd.func46, Tryd.ntmps46
  go_wp2
  go_ret
  exact ⟨rfl, rfl⟩
theorem is_undef (w : World) : Calls Tryd.prog 46 #[V 0 0 e0] w fun e w' => e = .returned (.bool false) ∧ w.alloc (bxs 0 0 e0) = w' := by
  go_enter Tryd.func46, Tryd.ntmps46
  go_wp2
  go_ret
  exact ⟨rfl, rfl⟩
theorem isNaN_nan (w : World) : Calls Tryd.prog 66 #[V 4 0 e0] w fun e w' => e = .returned (.bool true) ∧ w.alloc (bxs 4 0 e0) = w' := by
  go_enter Tryd.func66, Tryd.ntmps66
  go_wp2
  go_ret
  exact ⟨rfl, rfl⟩
theorem isNaN_one (w : World) : Calls Tryd.prog 66 #[V 3 1 e0] w fun e w' => e = .returned (.bool false) ∧ (w.alloc (bxs 3 1 e0)).alloc (bxs 3 1 e0) = w' := by
  go_enter Tryd.func66, Tryd.ntmps66
  go_wp2_with (first | (go_at_call 46; ((with_reducible refine (is_one _).mono ?_); rintro e w' ⟨rfl, rfl⟩)))
  go_ret
  exact ⟨rfl, rfl⟩
theorem fmt_one (w : World) : Calls Tryd.prog 68 #[.int .i64 1, .int .i64 10] w fun e w' => e = .returned (.string ⟨#[49]⟩) ∧ w' = w := by
  have h := Tryd.strconv_FormatInt_10_small 1 (by omega) w
  have e : Lib.decDigits 1 = [49] := by rw [Lib.decDigits, dif_pos (by omega)]; rfl
  rw [e] at h
  exact h
theorem numText_one (w : World) : Calls Tryd.prog 51 #[V 3 1 e0] w fun e w' => e = .returned (.string ⟨#[49]⟩) ∧ w.alloc (bxs 3 1 e0) = w' := by
  go_enter Tryd.func51, Tryd.ntmps51
  go_wp2_with (first | (go_at_call 68; ((with_reducible refine (fmt_one _).mono ?_); rintro e w' ⟨rfl, rfl⟩)))
  go_ret
  exact ⟨rfl, rfl⟩
theorem text_str (s : ByteArray) (w : World) : Calls Tryd.prog 23 #[V 7 0 s] w fun e w' => e = .returned (.tuple #[.string s, .int .i64 0]) ∧ w.alloc (bxs 7 0 s) = w' := by
  go_enter Tryd.func23, Tryd.ntmps23
  go_wp2
  go_ret2
  exact ⟨rfl, rfl⟩
theorem text_one (w : World) : Calls Tryd.prog 23 #[V 3 1 e0] w fun e w' => e = .returned (.tuple #[.string ⟨#[0, 49]⟩, .int .i64 0]) ∧ Below w.heap.size w w' := by
  have c1 : Hid (ofB ⟨#[49]⟩ = [0, 49]) := by show _ = _; decide +kernel
  go_enter Tryd.func23, Tryd.ntmps23
  go_wp2_with (first | (go_at_call 46; ((with_reducible refine (is_one _).mono ?_); rintro e w' ⟨rfl, rfl⟩)) | (go_at_call 51; ((with_reducible refine (numText_one _).mono ?_); rintro e w' ⟨rfl, rfl⟩)) | (go_at_call 50; ((with_reducible refine (of_const _ _ (by decide) c1 _).mono ?_); rintro e w1 ⟨rfl, hb1⟩)))
  go_ret2
  exact ⟨rfl, ((((Below.refl _ _).alloc (Nat.le_refl _) _).alloc (by simp) _).alloc (by simp; omega) _).trans (hb1.mono (by simp; omega))⟩
theorem truth_any (b : Bool) (w : World) : Calls Tryd.prog 34 #[.bool b] w fun e w' => e = .returned (V 2 (if b then 1 else 0) e0) ∧ w.alloc (bxs 2 (if b then 1 else 0) e0) = w' := by
  cases b
  · go_enter Tryd.func34, Tryd.ntmps34
    go_wp2
    exact bodyPost_ret (v := V 2 0 e0) (by simp [results, Tryd.results34, go_sem]) rfl ⟨rfl, rfl⟩
  · go_enter Tryd.func34, Tryd.ntmps34
    go_wp2
    exact bodyPost_ret (v := V 2 1 e0) (by simp [results, Tryd.results34, go_sem]) rfl ⟨rfl, rfl⟩
end Go.Proofs.YtbkgophgclpijaaDoor.W
