/- TextOf: a text's units are those of its UTF-8. -/
import Derived.Test.YtgkhlcejfiagfaaDoorOg
import Derived.Test.YtgkhlcejfiagfaaDoorOh
namespace Go.Proofs.YtgkhlcejfiagfaaDoor
open Go.RowKit

theorem units_flat : ∀ (l : List Nat), (∀ u ∈ l, u < 65536) → units (l.flatMap u2) = l
  | [], _ => rfl
  | c :: r, h => by
    have hc : c < 65536 := h c (List.mem_cons_self ..)
    have := units_flat r (fun u hu => h u (List.mem_cons_of_mem _ hu))
    rw [List.flatMap_cons]
    show units (UInt8.ofNat (c / 256) :: UInt8.ofNat c :: r.flatMap u2) = _
    simp only [units, this]
    congr 1
    simp; omega
theorem flat_length (l : List Nat) : (l.flatMap u2).length = 2 * l.length := by
  induction l with
  | nil => rfl
  | cons x r ih => rw [List.flatMap_cons, List.length_append, ih]; simp [u2]; omega
theorem unitsFrom_le (s : ByteArray) : ∀ f p, (unitsFrom s f p).length ≤ 2 * (s.size - p)
  | 0, p => by simp [unitsFrom]
  | f + 1, p => by
    by_cases hp : p < s.size
    · rw [unitsFrom_step s f p hp, List.length_append]
      have : (unitR (Utf8.decode s p).1).length ≤ 2 := by unfold unitR; split <;> simp
      have := unitsFrom_le s f (p + (Utf8.decode s p).2)
      have := width_pos s p hp
      omega
    · rw [unitsFrom_end s _ p hp]; simp
theorem own_nums {w : World} {B : Nat} {v : Value} {l : List Nat} (h : w.ownsRow B 3 1 v l.length (numC l)) : ∃ a cap, v = .slice a l.length cap ∧ Nums w a l.length l := by
  rcases h.2 with ⟨rfl, h0⟩ | ⟨g, cap, cur, rfl, hB, hg, -, -, -, -⟩
  · exact ⟨none, 0, by rw [h0], rfl, fun hn => by omega⟩
  · refine ⟨some ⟨g, 0, none⟩, cap, rfl, rfl, fun _ => ⟨g, 0, rfl, lt_of_block hg, fun i hi => ?_⟩⟩
    have hx : (numC l)[i]? = some (.int .i64 ((l[i]?.getD 0 : Nat) : Int)) := by
      unfold numC; rw [List.getElem?_map, List.getElem?_eq_getElem hi]; rfl
    have := h.cells (g := g) rfl i _ hx
    have e : (⟨g, 0, none⟩ : Addr).add i = ⟨g, 0 + i, none⟩ := by unfold Addr.add; split <;> simp_all
    rw [e] at this
    exact this

theorem cell_later {B b o : Nat} {w w1 : World} {v : Value} (hb : Below B w w1) (h : w.cell? ⟨b, o, none⟩ = some v) (hB : w.heap.size ≤ B) : w1.cell? ⟨b, o, none⟩ = some v := by
  rw [hb.cell (p := ⟨b, o, none⟩) (by have := World.block_lt_of_cell? _ _ h; simp at this ⊢; omega)]; exact h
theorem val_any (s : ByteArray) (hs : s.size ≤ 16777216) (w : World) :
    Calls Tryd.prog 7 #[.string s] w fun e w' => e = .returned (.agg #[.int .i64 7, .int .i64 0, .string ⟨(ofB s).toArray⟩]) ∧ Below w.heap.size w w' := by
  go_enter Tryd.func7, Tryd.ntmps7
  go_wp2_with (first | (go_at_call 5; ((with_reducible refine (of_any _ (by assumption) _).mono ?_); rintro e wx ⟨rfl, hbx⟩; refine Hid.out ?_)))
  obtain ⟨hc, hf⟩ : (∀ o, wx.cell? ⟨w.heap.size, o, none⟩ = (w.alloc (.cells #[.int .i64 0, .int .i64 0, .string ⟨#[]⟩] 27)).cell? ⟨w.heap.size, o, none⟩) ∧ (∀ o, wx.frozen? ⟨w.heap.size, o, none⟩ = (w.alloc (.cells #[.int .i64 0, .int .i64 0, .string ⟨#[]⟩] 27)).frozen? ⟨w.heap.size, o, none⟩) :=
    ⟨fun o => hbx.cell (p := ⟨w.heap.size, o, none⟩) (by simp), fun o => hbx.frozen (p := ⟨w.heap.size, o, none⟩) (by simp)⟩
  have hB : Below w.heap.size w wx := ((Below.refl _ _).alloc (Nat.le_refl _) _).trans (hbx.mono (by simp))
  have hz : w.heap.size < wx.heap.size := by have := hbx.size; simp at this; omega
  refine Lib.hid ?_
  go_wp2
  refine bodyPost_ret (v := .agg #[.int .i64 7, .int .i64 0, .string ⟨(ofB s).toArray⟩]) (by simp [results, Tryd.results7, go_sem, hc]) rfl ⟨rfl, ?_⟩
  exact ((hB.setCell (p := ⟨_, 0, none⟩) (Nat.le_refl _) _).setCell (p := ⟨_, 1, none⟩) (Nat.le_refl _) _).setCell (p := ⟨_, 2, none⟩) (Nat.le_refl _) _

set_option maxRecDepth 1000000 in
set_option maxHeartbeats 4000000 in
theorem textOf_any (s : ByteArray) (w : World) (hT : Tb w) :
    Calls Tryd.prog 3 #[.string s] w fun e w' => e = .returned (.bool true) ∧ Below w.heap.size w w' := by
  by_cases hs : 5000 < s.size
  · have hsi : (5000 : Int) < (s.size : Int) := by omega
    go_enter Tryd.func3, Tryd.ntmps3
    go_wp2_with (first | (go_at_call 4; ((with_reducible refine (fit_any _).mono ?_); rintro e w1 ⟨rfl, hb1⟩)))
    go_ret
    exact ⟨rfl, hb1⟩
  have hsi : ¬ (5000 : Int) < (s.size : Int) := by omega
  have hs1 : s.size ≤ 16777216 := by omega
  have cOf := fun W => of_any s hs1 W
  have cVal := fun W => val_any s hs1 W
  have cUn := fun W hW => units_any s hs1 W hW
  have hLlt := unitsFrom_lt s s.size 0
  have hLle := unitsFrom_le s s.size 0
  have hofB : ofB s = (unitsFrom s s.size 0).flatMap u2 := ofFrom_units s s.size 0
  rw [hofB] at cOf cVal
  obtain ⟨L, hL⟩ : ∃ L, L = unitsFrom s s.size 0 := ⟨_, rfl⟩
  rw [← hL] at cOf cVal cUn hLlt hLle
  clear hL hofB
  have hUs : (⟨(L.flatMap u2).toArray⟩ : ByteArray).size = 2 * L.length := by show (L.flatMap u2).toArray.size = _; rw [List.size_toArray, flat_length]
  have hUu : unitsS ⟨(L.flatMap u2).toArray⟩ = L := by unfold unitsS; exact units_flat L hLlt
  have cStr := fun (a : Option Addr) (cap : Nat) (W : World) (h : Nums W a L.length L) => str_any a L.length cap L (by omega) hLlt W h
  obtain ⟨U, hU⟩ : ∃ U : ByteArray, U = ⟨(L.flatMap u2).toArray⟩ := ⟨_, rfl⟩
  rw [← hU] at cOf cVal cStr hUs hUu
  obtain ⟨n, hn⟩ : ∃ n, n = L.length := ⟨_, rfl⟩
  rw [← hn] at cStr hUs
  have hn5 : n ≤ 10000 := by omega
  have HUU : Veil (unitsS U = L) := ⟨hUu⟩
  have HUS : Veil (U.size = 2 * n) := ⟨hUs⟩
  have HN : Veil (n = L.length) := ⟨hn⟩
  have hU1 : U.size ≤ 16777216 := by omega
  have cLen : ∀ W : World, Calls Tryd.prog 9 #[.string U] W fun e w' => e = .returned (.int .i64 (n : Int)) ∧ W = w' := fun W => (len_any U hU1 W).mono fun _ _ he => by rw [hUs, show ((2 * n : Nat) : Int) / 2 = (n : Int) by omega] at he; exact he
  have cIn : ∀ (i : Nat), i < n → ∀ W : World, Calls Tryd.prog 10 #[.string U, .int .i64 (i : Int)] W fun e w' => e = .returned (.int .u16 ((L[i]?.getD 0 : Nat) : Int)) ∧ ∃ m, w' = W.drewN m := fun i hi W => (at_in U hU1 i (by omega) W).mono fun _ _ he => by rw [hUu] at he; exact he
  have cOut : ∀ (i : Int), (i < 0 ∨ (n : Int) ≤ i) → ∀ W : World, Calls Tryd.prog 10 #[.string U, .int .i64 i] W fun e w' => e = .returned (.int .u16 0) ∧ W = w' := fun i hi W => at_out U hU1 i (by rw [hUs]; omega) W
  have hLlt2 : Veil (∀ i, i < n → L[i]?.getD 0 < 65536) := ⟨fun i hi => by rw [List.getElem?_eq_getElem (by omega)]; exact hLlt _ (List.getElem_mem _)⟩
  clear hU hLlt hLle hUs hUu hn
  go_enter Tryd.func3, Tryd.ntmps3
  go_wp2_with (first | (go_at_call 4; ((with_reducible refine (fit_any _).mono ?_); rintro e w1 ⟨rfl, hb1⟩)) | (go_at_call 5; ((with_reducible refine (cOf _).mono ?_); rintro e w2 ⟨rfl, hb2⟩)) | (go_at_call 6; ((with_reducible refine (cUn _ ((hT.on hb1).on hb2)).mono ?_); rintro e w3 ⟨v, rfl, hown, hb3⟩; refine Hid.out ?_)))
  rw [← HN.out] at hown
  obtain ⟨a, cap, rfl, hnm⟩ := own_nums (l := L) (by rw [← HN.out]; exact hown)
  rw [← HN.out] at hnm hown ⊢
  clear hown
  refine Lib.hid ?_
  go_wp2_with (first | (go_at_call 7; ((with_reducible refine (cVal _).mono ?_); rintro e w4 ⟨rfl, hb4⟩; have hnm4 := hnm.on hb4)) | (go_at_call 8; ((with_reducible refine (cStr _ _ _ (hnm4.on (by repeat (first | (with_reducible exact Below.refl _ _) | (refine Below.alloc ?_ (Nat.le_refl _) _))))).mono ?_); rintro e w5 ⟨rfl, hb5⟩; refine Hid.out ?_)))
  have v0 : w5.cell? ⟨w4.heap.size, 0, none⟩ = some (.int .i64 7) := cell_later hb5 (by simp) (Nat.le_refl _)
  have v2 : w5.cell? ⟨w4.heap.size, 2, none⟩ = some (.string U) := cell_later hb5 (by simp) (Nat.le_refl _)
  have hb14 := blw2 (blw2 (blw2 hb1 hb2) hb3) hb4
  have hB : Below w.heap.size w w5 := (hb14.alloc hb14.size _).trans (hb5.mono (by have := hb14.size; simp; omega))
  have hnm5 : Nums w5 a n L := (hnm4.on ((Below.refl _ _).alloc (Nat.le_refl _) _)).on hb5
  have HNM := Veil.mk hnm5
  clear hnm hnm4 hnm5 hb1 hb2 hb3 hb4 hb5 hb14
  refine Lib.hid ?_
  go_wp2_with (first | (go_at_call 9; ((with_reducible refine (cLen _).mono ?_); rintro e w' ⟨rfl, rfl⟩)))
  clear v0 v2 cOf cVal cUn cStr cLen
  go_loopw [6] (fun i wr => ∃ k : Int, -1 ≤ k ∧ k ≤ (n : Int) + 1 ∧ i = .int .i64 k ∧ Nums wr a n L ∧ Below w.heap.size w wr) (fun i _ => ((n : Int) + 2 - intOf i).toNat)
  case atStart => exact ⟨-1, by omega, by omega, rfl, HNM.out, hB⟩
  case round =>
    obtain ⟨k, hk1, hk2, rfl, hnm, hbw⟩ := hrel
    clear hB HNM
    by_cases c1 : k < 0
    · have q1 : k ≤ (n : Int) := by omega
      have hO := cOut k (Or.inl c1)
      have HM := Veil.mk hnm
      clear cIn cOut hnm
      go_wp2_with (first | (go_at_call 10; ((with_reducible refine (hO _).mono ?_); rintro e w' ⟨rfl, rfl⟩)))
      go_roundw
      case rel => exact ⟨k + 1, by omega, by omega, rfl, HM.out, hbw⟩
      case measure => simp [intOf]; omega
    by_cases c2 : k < (n : Int)
    · obtain ⟨j, rfl⟩ := Int.eq_ofNat_of_zero_le (show 0 ≤ k by omega)
      have hj : j < n := by omega
      have hI := cIn j hj
      have hlt := hLlt2.out j hj
      obtain ⟨b, o, rfl, hbl, hc⟩ := hnm.2 (by omega)
      have hcell := hc j hj
      have HM := Veil.mk hnm
      have q1 : (j : Int) ≤ (n : Int) := by omega
      have q2 : (0 : Int) ≤ (j : Int) := by omega
      obtain ⟨x, hx⟩ : ∃ x, x = L[j]?.getD 0 := ⟨_, rfl⟩
      rw [← hx] at hI hlt hcell
      clear cIn cOut hnm hc hx
      go_wp2_with (first | (go_at_call 10; ((with_reducible refine (hI _).mono ?_); rintro e w' ⟨rfl, m, rfl⟩)))
      go_roundw
      case rel => exact ⟨(j : Int) + 1, by omega, by omega, rfl, HM.out.on (below_drewN (Below.refl _ _) _), below_drewN hbw _⟩
      case measure => simp [intOf]; omega
    by_cases c3 : k ≤ (n : Int)
    · have hO := cOut k (Or.inr (by omega))
      have c1' : 0 ≤ k := by omega
      have HM := Veil.mk hnm
      clear cIn cOut hnm
      go_wp2_with (first | (go_at_call 10; ((with_reducible refine (hO _).mono ?_); rintro e w' ⟨rfl, rfl⟩)))
      go_roundw
      case rel => exact ⟨k + 1, by omega, by omega, rfl, HM.out, hbw⟩
      case measure => simp [intOf]; omega
    · clear cIn cOut hnm
      go_wp2
      go_ret
      exact ⟨rfl, hbw⟩
end Go.Proofs.YtgkhlcejfiagfaaDoor
