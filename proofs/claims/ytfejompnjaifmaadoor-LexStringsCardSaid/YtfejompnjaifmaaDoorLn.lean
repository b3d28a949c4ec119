/- Package lex's laws: the example; LexEnds. -/
import Derived.Test.YtfejompnjaifmaaDoorLm
namespace Go.Proofs.YtfejompnjaifmaaDoor
open Go Go.RowKit

theorem fit_scan : scanS [97, 63, 46, 53] = .ok [(⟨1, [97], 0, 1⟩, 0), (⟨5, [63], 0, 1⟩, 1), (⟨5, [46], 0, 1⟩, 2), (⟨3, [53], 5, 1⟩, 3), (⟨0, [], 0, 0⟩, 4)] := by kernel_rfl
set_option maxHeartbeats 4000000 in
set_option maxRecDepth 100000 in
theorem fit_any (w : World) (hG : Gl w) :
    Calls Tryd.prog 6 #[] w (BelPost w (.bool true)) := by
  have HG := Veil.mk hG
  have HSC : Veil (∀ w, Gl w → Calls Tryd.prog 7 #[.string ⟨#[97, 63, 46, 53]⟩] w fun e w' => ∃ g cap, e = .returned (.tuple #[.slice (some ⟨g, 0, none⟩) 5 cap, .agg #[.int .i64 0, .int .i64 0]]) ∧ Below w.heap.size w w' ∧ w'.ownsRow w.heap.size 31 4 (.slice (some ⟨g, 0, none⟩) 5 cap) 5 (tkFlat [(⟨1, [97], 0, 1⟩, 0), (⟨5, [63], 0, 1⟩, 1), (⟨5, [46], 0, 1⟩, 2), (⟨3, [53], 5, 1⟩, 3), (⟨0, [], 0, 0⟩, 4)])) := ⟨fun w hg => (scan_any ⟨#[97, 63, 46, 53]⟩ (by decide) w hg).mono (by
    rintro e w' ⟨hb, h⟩
    rw [show (⟨#[97, 63, 46, 53]⟩ : ByteArray).data.toList = [97, 63, 46, 53] from rfl, fit_scan] at h
    rcases h with ⟨k, a, h1, _⟩ | ⟨ts, g, cap, h1, h2, h3⟩
    · cases h1
    · injection h1 with h1
      subst h1
      exact ⟨g, cap, h2, hb, h3⟩)⟩
  clear hG
  go_enter Tryd.func6, Tryd.ntmps6
  go_upto_region 2 with (first | (go_at_call 7; ((with_reducible refine (HSC.out _ HG.out).mono ?_); rintro e9 w2 ⟨g, cap, rfl, hb2, ho2⟩)))
  have hb3 : Below w.heap.size w (w2.alloc (.cells #[.int .i64 0, .int .i64 0] 27)) := hb2.alloc hb2.size _
  have ho3 := ho2.alloc (.cells #[.int .i64 0, .int .i64 0] 27)
  have bf : Box (w2.alloc (.cells #[.int .i64 0, .int .i64 0] 27)) w2.heap.size 27 #[.int .i64 0, .int .i64 0] := Box.new _ _ _
  generalize w2.alloc (.cells #[.int .i64 0, .int .i64 0] 27) = W3 at hb3 ho3 bf ⊢
  have c0 : W3.cell? ⟨w2.heap.size, 0, none⟩ = some (.int .i64 0) := bf.at_ 0
  have r0 : W3.cell? ⟨g, 0, none⟩ = some (.int .i64 1) := ho3.cellAt 0 (by omega)
  have r1 : W3.cell? ⟨g, 5, none⟩ = some (.string ⟨#[63]⟩) := ho3.cellAt 5 (by omega)
  have r2 : W3.cell? ⟨g, 15, none⟩ = some (.int .i64 5) := ho3.cellAt 15 (by omega)
  have HB3 := Veil.mk hb3
  clear hb2 ho2 hb3 ho3 bf
  go_wp2
  go_ret
  exact ⟨rfl, HB3.out⟩
/-- Blanks before a text. -/
def sps (n : Nat) : By := List.replicate n 32
theorem skip_sps (t : By) : ∀ (n f : Nat), skipL (n + f) (sps n ++ t) = (n + (skipL f t).1, (skipL f t).2)
  | 0, f => by simp [sps]
  | n + 1, f => by
    show skipL (n + 1 + f) (32 :: (sps n ++ t)) = _
    rw [show n + 1 + f = (n + f) + 1 by omega]
    conv => lhs; unfold skipL
    rw [if_pos (by decide), skip_sps t n f]
    show (1 + (n + _), _) = _
    rw [show 1 + (n + (skipL f t).1) = n + 1 + (skipL f t).1 by omega]
theorem ends_scan (n : Nat) (hn : n < 50) (t : By) (b : Bool) (ht : t.length ≤ 100) (h : skipL t.length t = (0, b)) (h2 : b = false ∨ (t ≠ [] ∧ nextL ofL t = none)) : scanS (sps n ++ t) = .error (3, n) := by
  have hl : (sps n ++ t).length = n + t.length := by rw [List.length_append, sps, List.length_replicate]
  have hs : skipL (sps n ++ t).length (sps n ++ t) = (n, b) := by rw [hl, skip_sps, h]; rfl
  have hd : (sps n ++ t).drop n = t := by
    rw [List.drop_append_of_le_length (by rw [sps, List.length_replicate]; exact Nat.le_refl _), List.drop_eq_nil_of_le (by rw [sps, List.length_replicate]; exact Nat.le_refl _)]
    rfl
  unfold scanS
  rw [if_neg (by omega)]
  rcases h2 with h2 | ⟨h2, h3⟩
  · rw [scan_bad (by rw [hs, h2]), hs, Nat.zero_add]
    rfl
  · cases b with
    | false =>
      rw [scan_bad (by rw [hs]), hs, Nat.zero_add]
      rfl
    | true =>
      rw [scan_none (by rw [hs]) (by rw [hs, hd]; exact h2) (by rw [hs, hd]; exact h3), hs, Nat.zero_add]
      rfl
def spB (n : Nat) : ByteArray := ⟨(sps n).toArray⟩
theorem spB_size (n : Nat) : (spB n).size = n := by
  show (sps n).toArray.size = n
  simp [sps]
theorem spB_add (n : Nat) : spB n ++ ⟨#[32]⟩ = spB (n + 1) := by
  apply by_inj
  rw [Joins.data_append]
  show sps n ++ [32] = sps (n + 1)
  unfold sps
  rw [← List.replicate_succ']
theorem spB_list (n : Nat) (t : By) : (spB n ++ ⟨t.toArray⟩).data.toList = sps n ++ t := by
  rw [Joins.data_append]
  rfl
/-- Scan refuses such a text where its blanks end. -/
theorem ends_any (n : Nat) (hn : n < 50) (t : By) (b : Bool) (ht : t.length ≤ 100) (h : skipL t.length t = (0, b)) (h2 : b = false ∨ (t ≠ [] ∧ nextL ofL t = none)) (w : World) (hG : Gl w) :
    Calls Tryd.prog 7 #[.string (spB n ++ ⟨t.toArray⟩)] w (BelPost w (.tuple #[.slice none 0 0, .agg #[.int .i64 3, .int .i64 (n : Int)]])) := by
  have hsz : (spB n ++ ⟨t.toArray⟩).size ≤ 20000 := by
    rw [ByteArray.size_append, spB_size]
    show n + t.length ≤ 20000
    omega
  refine (scan_any _ hsz w hG).mono ?_
  rintro e w' ⟨hb, h⟩
  rw [spB_list, ends_scan n hn t b ht (by assumption) h2] at h
  rcases h with ⟨k, a, h1, h3⟩ | ⟨ts, g, cap, h1, _⟩
  · injection h1 with h1
    injection h1 with h1 h4
    subst h1 h4
    exact ⟨h3, hb⟩
  · cases h1
set_option maxHeartbeats 4000000 in
set_option maxRecDepth 100000 in
theorem ends_law (n0 what : Int) (w : World) (hG : Gl w) :
    Calls Tryd.prog 5 #[.int .i64 n0, .int .i64 what] w (BelPost w (.bool true)) := by
  obtain ⟨n, hn, hx1, hx2, hx3, hx4⟩ := rem_nat n0 50 (by omega)
  obtain ⟨q, hq, hy1, hy2, hy3, hy4⟩ := rem_nat what 5 (by omega)
  have hx1 : (n0.tmod 50 + 50).tmod 50 = (n : Int) := hx1
  have hx2 : (n0.tmod 50 + 50) % 50 = (n : Int) := hx2
  have hx3 : 0 < n0.tmod 50 + 50 := hx3
  have hx4 : n0.tmod 50 < 50 := hx4
  have hy1 : (what.tmod 5 + 5).tmod 5 = (q : Int) := hy1
  have hy2 : (what.tmod 5 + 5) % 5 = (q : Int) := hy2
  have hy3 : 0 < what.tmod 5 + 5 := hy3
  have hy4 : what.tmod 5 < 5 := hy4
  have HG := Veil.mk hG
  have HFT : Veil (∀ w, Gl w → Calls Tryd.prog 6 #[] w (BelPost w (.bool true))) := ⟨fit_any⟩
  clear hG
  go_enter Tryd.func5, Tryd.ntmps5
  go_upto_region 4 with (first | (go_at_call 6; ((with_reducible refine (HFT.out _ HG.out).mono ?_); rintro e9 w1 ⟨rfl, hb1⟩; have HB1 := Veil.mk hb1; clear hb1)))
  have HG1 : Veil (Gl w1) := ⟨HG.out.on HB1.out⟩
  clear hx1 hx2 hx3 hx4
  go_upto_region 6 with (fail)
  go_loop [5, 17] (fun pad i => ∃ k : Nat, k ≤ n ∧ i = .int .i64 (k : Int) ∧ pad = .string (spB k)) (fun _ i => n - (intOf i).toNat)
  case atStart => exact ⟨0, Nat.zero_le _, rfl, rfl⟩
  case round =>
    obtain ⟨k, hk, rfl, rfl⟩ := hrel
    have hks := spB_size k
    by_cases hlt : k < n
    · have hlt' : (k : Int) < (n : Int) := by omega
      have HA := Veil.mk (spB_add k)
      go_wp2
      go_round
      case rel => exact ⟨k + 1, by omega, by go_num, by rw [← HA.out]⟩
      case measure => simp [intOf]; omega
    · have hlt' : ¬ (k : Int) < (n : Int) := by omega
      obtain rfl : k = n := by omega
      have hcl : k ≤ k := Nat.le_refl _
      clear hcl hlt hlt' hk
      obtain rfl | rfl | rfl | rfl | rfl : q = 0 ∨ q = 1 ∨ q = 2 ∨ q = 3 ∨ q = 4 := by omega
      · have HSC : Veil (∀ w, Gl w → Calls Tryd.prog 7 #[.string (spB k ++ ⟨#[39, 97, 98, 99]⟩)] w (BelPost w (.tuple #[.slice none 0 0, .agg #[.int .i64 3, .int .i64 (k : Int)]]))) := ⟨fun w hg => ends_any k hn [39, 97, 98, 99] true (by decide) (by kernel_rfl) (.inr ⟨by simp, by kernel_rfl⟩) w hg⟩
        go_wp2_with (first | (go_at_call 7; ((with_reducible refine (HSC.out _ HG1.out).mono ?_); rintro e9 w2 ⟨rfl, hb2⟩; have HB2 := Veil.mk hb2; clear hb2)))
        go_ret
        exact ⟨rfl, HB1.out.trans ((HB2.out.mono HB1.out.size).alloc (Nat.le_trans HB1.out.size HB2.out.size) _)⟩
      · have HSC : Veil (∀ w, Gl w → Calls Tryd.prog 7 #[.string (spB k ++ ⟨#[47, 42, 32, 97, 98, 99]⟩)] w (BelPost w (.tuple #[.slice none 0 0, .agg #[.int .i64 3, .int .i64 (k : Int)]]))) := ⟨fun w hg => ends_any k hn [47, 42, 32, 97, 98, 99] false (by decide) (by kernel_rfl) (.inl rfl) w hg⟩
        go_wp2_with (first | (go_at_call 7; ((with_reducible refine (HSC.out _ HG1.out).mono ?_); rintro e9 w2 ⟨rfl, hb2⟩; have HB2 := Veil.mk hb2; clear hb2)))
        go_ret
        exact ⟨rfl, HB1.out.trans ((HB2.out.mono HB1.out.size).alloc (Nat.le_trans HB1.out.size HB2.out.size) _)⟩
      · have HSC : Veil (∀ w, Gl w → Calls Tryd.prog 7 #[.string (spB k ++ ⟨#[34, 97, 98, 99, 10, 34]⟩)] w (BelPost w (.tuple #[.slice none 0 0, .agg #[.int .i64 3, .int .i64 (k : Int)]]))) := ⟨fun w hg => ends_any k hn [34, 97, 98, 99, 10, 34] true (by decide) (by kernel_rfl) (.inr ⟨by simp, by kernel_rfl⟩) w hg⟩
        go_wp2_with (first | (go_at_call 7; ((with_reducible refine (HSC.out _ HG1.out).mono ?_); rintro e9 w2 ⟨rfl, hb2⟩; have HB2 := Veil.mk hb2; clear hb2)))
        go_ret
        exact ⟨rfl, HB1.out.trans ((HB2.out.mono HB1.out.size).alloc (Nat.le_trans HB1.out.size HB2.out.size) _)⟩
      · have HSC : Veil (∀ w, Gl w → Calls Tryd.prog 7 #[.string (spB k ++ ⟨#[39, 92, 122, 39]⟩)] w (BelPost w (.tuple #[.slice none 0 0, .agg #[.int .i64 3, .int .i64 (k : Int)]]))) := ⟨fun w hg => ends_any k hn [39, 92, 122, 39] true (by decide) (by kernel_rfl) (.inr ⟨by simp, by kernel_rfl⟩) w hg⟩
        go_wp2_with (first | (go_at_call 7; ((with_reducible refine (HSC.out _ HG1.out).mono ?_); rintro e9 w2 ⟨rfl, hb2⟩; have HB2 := Veil.mk hb2; clear hb2)))
        go_ret
        exact ⟨rfl, HB1.out.trans ((HB2.out.mono HB1.out.size).alloc (Nat.le_trans HB1.out.size HB2.out.size) _)⟩
      · have HSC : Veil (∀ w, Gl w → Calls Tryd.prog 7 #[.string (spB k ++ ⟨#[35]⟩)] w (BelPost w (.tuple #[.slice none 0 0, .agg #[.int .i64 3, .int .i64 (k : Int)]]))) := ⟨fun w hg => ends_any k hn [35] true (by decide) (by kernel_rfl) (.inr ⟨by simp, by kernel_rfl⟩) w hg⟩
        go_wp2_with (first | (go_at_call 7; ((with_reducible refine (HSC.out _ HG1.out).mono ?_); rintro e9 w2 ⟨rfl, hb2⟩; have HB2 := Veil.mk hb2; clear hb2)))
        go_ret
        exact ⟨rfl, HB1.out.trans ((HB2.out.mono HB1.out.size).alloc (Nat.le_trans HB1.out.size HB2.out.size) _)⟩
end Go.Proofs.YtfejompnjaifmaaDoor
