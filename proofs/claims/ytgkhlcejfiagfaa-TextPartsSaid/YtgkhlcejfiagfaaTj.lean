/- TextValues: a text's value has its units, and one that is joined those of both. -/
import Derived.Test.YtgkhlcejfiagfaaTf
import Derived.Test.YtgkhlcejfiagfaaShelf
import Derived.Laws.StructEq
namespace Go.Proofs.Ytgkhlcejfiagfaa
open Go.RowKit

theorem ofR_even (c : Nat) : (ofR c).length % 2 = 0 := by unfold ofR; split <;> simp [u2]
theorem ofFrom_even (s : ByteArray) : ∀ f p, (ofFrom s f p).length % 2 = 0
  | 0, p => rfl
  | f + 1, p => by
    by_cases hp : p < s.size
    · rw [ofFrom_step s f p hp, List.length_append]
      have := ofR_even (Utf8.decode s p).1
      have := ofFrom_even s f (p + (Utf8.decode s p).2)
      omega
    · rw [ofFrom_end s _ p hp]; rfl
theorem ofFrom_le (s : ByteArray) : ∀ f p, (ofFrom s f p).length ≤ 4 * (s.size - p)
  | 0, p => by simp [ofFrom]
  | f + 1, p => by
    by_cases hp : p < s.size
    · rw [ofFrom_step s f p hp, List.length_append]
      have := ofR_length (Utf8.decode s p).1
      have := ofFrom_le s f (p + (Utf8.decode s p).2)
      have := width_pos s p hp
      omega
    · rw [ofFrom_end s _ p hp]; simp

theorem val_any (s : ByteArray) (hs : s.size ≤ 16777216) (w : World) :
    Calls Try.prog 25 #[.string s] w fun e w' => e = .returned (.agg #[.int .i64 7, .int .i64 0, .string ⟨(ofB s).toArray⟩]) ∧ Below w.heap.size w w' := by
  go_enter Try.func25, Try.ntmps25
  go_wp2_with (first | (go_at_call 18; ((with_reducible refine (of_any _ (by assumption) _).mono ?_); rintro e wx ⟨rfl, hbx⟩; refine Hid.out ?_)))
  obtain ⟨hc, hf⟩ : (∀ o, wx.cell? ⟨w.heap.size, o, none⟩ = (w.alloc (.cells #[.int .i64 0, .int .i64 0, .string ⟨#[]⟩] 49)).cell? ⟨w.heap.size, o, none⟩) ∧ (∀ o, wx.frozen? ⟨w.heap.size, o, none⟩ = (w.alloc (.cells #[.int .i64 0, .int .i64 0, .string ⟨#[]⟩] 49)).frozen? ⟨w.heap.size, o, none⟩) :=
    ⟨fun o => hbx.cell (p := ⟨w.heap.size, o, none⟩) (by simp), fun o => hbx.frozen (p := ⟨w.heap.size, o, none⟩) (by simp)⟩
  have hB : Below w.heap.size w wx := ((Below.refl _ _).alloc (Nat.le_refl _) _).trans (hbx.mono (by simp))
  have hz : w.heap.size < wx.heap.size := by have := hbx.size; simp at this; omega
  refine Lib.hid ?_
  go_wp2
  refine bodyPost_ret (v := .agg #[.int .i64 7, .int .i64 0, .string ⟨(ofB s).toArray⟩]) (by simp [results, Try.results25, go_sem, hc]) rfl ⟨rfl, ?_⟩
  exact ((hB.setCell (p := ⟨_, 0, none⟩) (Nat.le_refl _) _).setCell (p := ⟨_, 1, none⟩) (Nat.le_refl _) _).setCell (p := ⟨_, 2, none⟩) (Nat.le_refl _) _

/-- Contracts at known results. -/
theorem sub_at (s r : ByteArray) (i j : Int) (hs : s.size ≤ 16777216) (h : Hid (subB s i j = r)) (w : World) :
    Calls Try.prog 22 #[.string s, .int .i64 i, .int .i64 j] w fun e w' => e = .returned (.string r) ∧ w = w' :=
  (sub_any s hs i j w).mono fun _ _ he => by rw [h.out] at he; exact he
theorem len_at (s : ByteArray) (n : Int) (hs : s.size ≤ 16777216) (h : Hid ((s.size : Int) / 2 = n)) (w : World) :
    Calls Try.prog 26 #[.string s] w fun e w' => e = .returned (.int .i64 n) ∧ w = w' :=
  (len_any s hs w).mono fun _ _ he => by rw [h.out] at he; exact he
theorem compare_any (a b : ByteArray) (w : World) :
    Calls Try.prog 20 #[.string a, .string b] w fun e w' => e = .returned (.int .i64 (Lib.compareBytes a.data.toList b.data.toList)) ∧ w = w' := by
  go_enter Try.func20, Try.ntmps20
  go_wp2_with (first | (go_at_call 37; ((with_reducible refine (Try.strings_Compare _ _ _).mono ?_); rintro e wx ⟨rfl, rfl⟩)))
  go_ret
  exact ⟨rfl, rfl⟩
theorem compare_at (a b : ByteArray) (n : Int) (h : Hid (Lib.compareBytes a.data.toList b.data.toList = n)) (w : World) :
    Calls Try.prog 20 #[.string a, .string b] w fun e w' => e = .returned (.int .i64 n) ∧ w = w' :=
  (compare_any a b w).mono fun _ _ he => by rw [h.out] at he; exact he
theorem compareBytes_self : ∀ a : List UInt8, Lib.compareBytes a a = 0
  | [] => by simp [Lib.compareBytes]
  | x :: r => by unfold Lib.compareBytes; rw [if_neg (by simp), if_neg (by simp)]; exact compareBytes_self r
theorem compareBytes_zero : ∀ a b : List UInt8, Lib.compareBytes a b = 0 → a = b
  | [], [], _ => rfl
  | [], _ :: _, h => by simp [Lib.compareBytes] at h
  | _ :: _, [], h => by simp [Lib.compareBytes] at h
  | x :: r, y :: t, h => by
    unfold Lib.compareBytes at h
    split at h
    · simp at h
    · split at h
      · simp at h
      · have h1 : x = y := by
          rename_i p q
          have e1 : ¬ x.toNat < y.toNat := fun hh => p (UInt8.lt_iff_toNat_lt.2 hh)
          have e2 : ¬ y.toNat < x.toNat := fun hh => q (UInt8.lt_iff_toNat_lt.2 hh)
          exact UInt8.toNat_inj.1 (by omega)
        rw [h1, compareBytes_zero r t h]
theorem sub_left (x y : ByteArray) (hx : x.size % 2 = 0) : subB (x ++ y) 0 ((x.size : Int) / 2) = x := by
  unfold subB
  have e1 : min (max ((x.size : Int) / 2) 0) (((x ++ y).size : Int) / 2) = (x.size : Int) / 2 := by simp; omega
  have e2 : min (max 0 0) ((x.size : Int) / 2) = 0 := by omega
  simp only [e1, e2]
  rw [show 2 * ((x.size : Int) / 2).toNat = x.size by omega]
  apply ByteArray.ext
  simp [ByteArray.data_extract]
theorem sub_right (x y : ByteArray) (hx : x.size % 2 = 0) (hy : y.size % 2 = 0) (h : x.size + y.size < 2000000000) : subB (x ++ y) ((x.size : Int) / 2) 1073741824 = y := by
  unfold subB
  have e1 : min (max 1073741824 0) (((x ++ y).size : Int) / 2) = ((x.size + y.size : Nat) : Int) / 2 := by simp; omega
  have e2 : min (max ((x.size : Int) / 2) 0) (((x.size + y.size : Nat) : Int) / 2) = (x.size : Int) / 2 := by omega
  simp only [e1, e2]
  rw [show 2 * ((x.size : Int) / 2).toNat = x.size by omega, show 2 * ((((x.size + y.size : Nat) : Int) / 2)).toNat = x.size + y.size by omega]
  apply ByteArray.ext
  rw [ByteArray.data_extract, ByteArray.data_append]
  have h1 : x.data.extract x.size (x.size + y.size) = #[] := Array.eq_empty_of_size_eq_zero (by simp)
  have h2 : y.data.extract 0 y.size = y.data := Array.extract_size
  rw [Array.extract_append, h1]
  simp [h2]
theorem sub_none (x : ByteArray) : subB x (-5) 0 = ⟨#[]⟩ := by
  unfold subB
  have e1 : min (max 0 0) ((x.size : Int) / 2) = 0 := by omega
  have e2 : min (max (-5) 0) (0 : Int) = 0 := by omega
  simp only [e1, e2]
  apply ByteArray.ext
  simp

set_option maxRecDepth 1000000 in
set_option maxHeartbeats 2000000 in
theorem values_any (a b : ByteArray) (w : World) :
    Calls Try.prog 7 #[.string a, .string b] w fun e w' => e = .returned (.bool true) ∧ Below w.heap.size w w' := by
  by_cases ha : 2000 < a.size
  · have hai : (2000 : Int) < (a.size : Int) := by omega
    go_enter Try.func7, Try.ntmps7
    go_wp2_with (first | (go_at_call 9; ((with_reducible refine (fit_any _).mono ?_); rintro e w1 ⟨rfl, hb1⟩)))
    go_ret
    exact ⟨rfl, hb1⟩
  have hai : ¬ (2000 : Int) < (a.size : Int) := by omega
  by_cases hb : 2000 < b.size
  · have hbi : (2000 : Int) < (b.size : Int) := by omega
    go_enter Try.func7, Try.ntmps7
    go_wp2_with (first | (go_at_call 9; ((with_reducible refine (fit_any _).mono ?_); rintro e w1 ⟨rfl, hb1⟩)))
    go_ret
    exact ⟨rfl, hb1⟩
  have hbi : ¬ (2000 : Int) < (b.size : Int) := by omega
  have has : a.size ≤ 16777216 := by omega
  have hbs : b.size ≤ 16777216 := by omega
  have va := fun w => val_any a has w
  have vb := fun w => val_any b hbs w
  obtain ⟨x, hx⟩ : ∃ x : ByteArray, x = ⟨(ofB a).toArray⟩ := ⟨_, rfl⟩
  obtain ⟨y, hy⟩ : ∃ y : ByteArray, y = ⟨(ofB b).toArray⟩ := ⟨_, rfl⟩
  have hxs : x.size ≤ 8000 := by rw [hx]; show (ofB a).toArray.size ≤ _; have := ofFrom_le a a.size 0; simp; unfold ofB; omega
  have hys : y.size ≤ 8000 := by rw [hy]; show (ofB b).toArray.size ≤ _; have := ofFrom_le b b.size 0; simp; unfold ofB; omega
  have hxe : x.size % 2 = 0 := by rw [hx]; show (ofB a).toArray.size % 2 = 0; have := ofFrom_even a a.size 0; simp; unfold ofB; omega
  have hye : y.size % 2 = 0 := by rw [hy]; show (ofB b).toArray.size % 2 = 0; have := ofFrom_even b b.size 0; simp; unfold ofB; omega
  rw [← hx] at va
  rw [← hy] at vb
  clear hx hy
  have hxy : (x ++ y).size = x.size + y.size := by simp
  have hj := join_in x y (by omega) (by omega) (by omega)
  have HS1 := Lib.hid (sub_left x y hxe)
  have HS2 := Lib.hid (sub_right x y hxe hye (by omega))
  have HS3 := Lib.hid (sub_none (x ++ y))
  obtain ⟨p, hp⟩ : ∃ p : Nat, p = x.size / 2 := ⟨_, rfl⟩
  obtain ⟨q, hq⟩ : ∃ q : Nat, q = y.size / 2 := ⟨_, rfl⟩
  have L1 : Hid ((x.size : Int) / 2 = (p : Int)) := by show _ = _; omega
  have L2 : Hid ((y.size : Int) / 2 = (q : Int)) := by show _ = _; omega
  have L3 : Hid (((x ++ y).size : Int) / 2 = (p : Int) + (q : Int)) := by show _ = _; omega
  have z1 : x.size ≤ 16777216 := by omega
  have z2 : y.size ≤ 16777216 := by omega
  have z3 : (x ++ y).size ≤ 16777216 := by omega
  rw [L1.out] at HS1 HS2
  have hp2 : (p : Int) ≤ 4000 := by omega
  have hq2 : (q : Int) ≤ 4000 := by omega
  clear hp hq hxy hxe hye hxs hys
  by_cases hne : x = y
  · subst hne
    have HC : Hid (Lib.compareBytes x.data.toList x.data.toList = 0) := compareBytes_self _
    obtain rfl : p = q := by have h1 := L1.out; have h2 := L2.out; omega
    go_enter Try.func7, Try.ntmps7
    go_wp2_with (first | (go_at_call 9; ((with_reducible refine (fit_any _).mono ?_); rintro e w1 ⟨rfl, hb1⟩)) | (go_at_call 25; first | ((with_reducible refine (va _).mono ?_); rintro e w2 ⟨rfl, hb2⟩) | ((with_reducible refine (vb _).mono ?_); rintro e w3 ⟨rfl, hb3⟩)) | (go_at_call 19; ((with_reducible refine (hj _).mono ?_); rintro e w' ⟨rfl, rfl⟩)) | (go_at_call 26; ((with_reducible refine (len_at _ _ z1 L1 _).mono ?_); rintro e w' ⟨rfl, rfl⟩)))
    have e1 : IntKind.i64.wrap ((p : Int) + (p : Int)) = (p : Int) + (p : Int) := IntWalk.i64_in _ (by omega)
    go_quiet ((first | (go_at_call 26; exact Calls.quiet_of_same ((len_at _ _ (by assumption) (by assumption) _).mono fun _ _ h => ⟨h.1, h.2.symm⟩)) | (go_at_call 22; exact Calls.quiet_of_same ((sub_at _ _ _ _ (by assumption) (by assumption) _).mono fun _ _ h => ⟨h.1, h.2.symm⟩)) | (go_at_call 20; exact Calls.quiet_of_same ((compare_at _ _ _ (by assumption) _).mono fun _ _ h => ⟨h.1, h.2.symm⟩))))
    go_wp2
    go_ret
    exact ⟨rfl, below_drewN (((blw2 (blw2 hb1 hb2) hb3).alloc (blw2 (blw2 hb1 hb2) hb3).size _).alloc (by have := (blw2 (blw2 hb1 hb2) hb3).size; simp; omega) _) _⟩
  · obtain ⟨c, hc⟩ : ∃ c, c = Lib.compareBytes x.data.toList y.data.toList := ⟨_, rfl⟩
    have HC : Hid (Lib.compareBytes x.data.toList y.data.toList = c) := hc.symm
    have c0 : (c == 0) = false := by
      have : ¬ c = 0 := fun h => hne (by
        have := compareBytes_zero _ _ (hc.symm.trans h)
        exact ByteArray.ext (Array.toList_inj.1 this))
      simpa using this
    have q1 : (x == y) = false := by
      rw [Bool.eq_false_iff]
      intro h
      have h' : (x.data == y.data) = true := h
      exact hne (ByteArray.ext (by simpa using h'))
    have q2 : (x.toList == y.toList) = false := by rw [← beq_toListBytes]; exact q1
    clear hc hne
    go_enter Try.func7, Try.ntmps7
    go_wp2_with (first | (go_at_call 9; ((with_reducible refine (fit_any _).mono ?_); rintro e w1 ⟨rfl, hb1⟩)) | (go_at_call 25; first | ((with_reducible refine (va _).mono ?_); rintro e w2 ⟨rfl, hb2⟩) | ((with_reducible refine (vb _).mono ?_); rintro e w3 ⟨rfl, hb3⟩)) | (go_at_call 19; ((with_reducible refine (hj _).mono ?_); rintro e w' ⟨rfl, rfl⟩)) | (go_at_call 26; ((with_reducible refine (len_at _ _ z1 L1 _).mono ?_); rintro e w' ⟨rfl, rfl⟩)))
    have e1 : IntKind.i64.wrap ((p : Int) + (q : Int)) = (p : Int) + (q : Int) := IntWalk.i64_in _ (by omega)
    go_quiet ((first | (go_at_call 26; exact Calls.quiet_of_same ((len_at _ _ (by assumption) (by assumption) _).mono fun _ _ h => ⟨h.1, h.2.symm⟩)) | (go_at_call 22; exact Calls.quiet_of_same ((sub_at _ _ _ _ (by assumption) (by assumption) _).mono fun _ _ h => ⟨h.1, h.2.symm⟩)) | (go_at_call 20; exact Calls.quiet_of_same ((compare_at _ _ _ (by assumption) _).mono fun _ _ h => ⟨h.1, h.2.symm⟩))))
    go_wp2
    go_ret
    exact ⟨rfl, below_drewN (((blw2 (blw2 hb1 hb2) hb3).alloc (blw2 (blw2 hb1 hb2) hb3).size _).alloc (by have := (blw2 (blw2 hb1 hb2) hb3).size; simp; omega) _) _⟩
end Go.Proofs.Ytgkhlcejfiagfaa
