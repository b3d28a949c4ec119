/- TextGo: WriteRune, the escapes. -/
import Derived.Test.YtbkgophgclpijaaSj
import Derived.Test.YtbkgophgclpijaaShelf
namespace Go.Proofs.Ytbkgophgclpijaa
open Go.RowKit

theorem encode_len (r : Int) : 1 ≤ (Lib.encodeRune r).length ∧ (Lib.encodeRune r).length ≤ 4 := by
  have h := Lib.encodeRuneZ_length r
  unfold Lib.encodeRune
  rw [List.length_map]
  exact h
theorem cells_len (r : Int) : (Lib.runeCells r).length = (Lib.encodeRune r).length := by
  unfold Lib.runeCells Lib.encodeRune
  rw [List.length_map, List.length_map]
set_option maxHeartbeats 1000000 in
set_option maxRecDepth 100000 in
theorem writeRune_any (B b : Nat) (l : List UInt8) (r : Nat) (w : World) (hr : r ≤ 1114111) (h : Bld B b l w) (hlen : l.length + 4 ≤ 1000000) (hBw : B ≤ w.heap.size) :
    Calls Try.prog 24 #[.pointer (some ⟨b, 0, none⟩), .int .i32 (r : Int)] w fun e w' => e = .returned (.tuple #[.int .i64 ((Lib.encodeRune (r : Int)).length : Int), .nilIface]) ∧ Used B b (l ++ Lib.encodeRune (r : Int)) w w' := by
  have HL := encode_len (r : Int)
  have HC := Lib.hid (cells_len (r : Int))
  have HB := Lib.hid (Lib.byteCells_encodeRune (r : Int))
  obtain ⟨en, hen⟩ : ∃ en, en = Lib.encodeRune (r : Int) := ⟨_, rfl⟩
  rw [← hen] at HL HC HB ⊢
  clear hen
  have hsub : IntKind.i64.wrap ((l.length : Int) + (en.length : Int) - (l.length : Int)) = (en.length : Int) := by rw [IntWalk.i64_in _ (by omega)]; omega
  go_enter Try.func24, Try.ntmps24
  go_wp2_with (first | (go_at_call 28; ((with_reducible refine (copyCheck_any B b l _ h).mono ?_); rintro e w1 ⟨rfl, hu⟩; obtain ⟨ao, cap, hB, hbk, hown, hne, c0, c1, f1, hbl, hz⟩ := hu.parts)) | (go_at_call 27; ((with_reducible refine (Try.utf8_AppendRune_plain B _ l.length (Lib.byteCells l) (r : Int) (by omega) (by omega) _ hown (by omega) (by omega)).mono ?_); rintro e w2 ⟨v', rfl, hown', o, hgrow⟩; have hb2 : w2.heap[b]? = _ := ((hgrow.block b (by simp; omega) (fun e => hne e.symm)).trans (Lib.alloc_old w1 _ b hbl)).trans hbk; have d0 : w2.cell? ⟨b, 0, none⟩ = some (.pointer (some ⟨b, 0, none⟩)) := (by rw [Lib.cell_of_heap hb2]; rfl); have d1 : w2.cell? ⟨b, 1, none⟩ = some (.slice ao l.length cap) := (by rw [Lib.cell_of_heap hb2]; rfl); have f2 : w2.frozen? ⟨b, 1, none⟩ = false := Lib.frozen_of_heap hb2 1; rw [HC.out] at hown'; obtain ⟨ao', cap', rfl⟩ := slice_of_own hown')))
  go_ret2
  exact ⟨rfl, used_put hB hb2 (by rw [List.length_append, Lib.byteCells_append, HB.out]; exact hown') ((hu.2.1.alloc (by omega) _).grown hgrow (by simp; omega) (fun k hk => (hown.lt k hk).1)) ((hu.2.2.alloc _).grown hgrow (own_kind (hown.alloc _)))⟩
theorem digit_at (n : Nat) (h : n < 16) : (⟨#[48, 49, 50, 51, 52, 53, 54, 55, 56, 57, 65, 66, 67, 68, 69, 70]⟩ : ByteArray)[n]'h = hexD n := by
  have : ∀ n : Fin 16, (⟨#[48, 49, 50, 51, 52, 53, 54, 55, 56, 57, 65, 66, 67, 68, 69, 70]⟩ : ByteArray)[n.val]'n.isLt = hexD n.val := by decide +kernel
  exact this ⟨n, h⟩
theorem and15 (n : Nat) (h : n < 65536) : bits .and .i32 (n : Int) 15 = ((n % 16 : Nat) : Int) := by
  have := bits_mask .i32 16 (by decide) (fun n h0 h1 => by rw [IntWalk.i32_in _ (by omega)]) 4 (by omega) (n : Int) (by omega) (by omega)
  simpa using this
theorem hex_take (r k : Nat) (hk : k < 4) : (hex4 r).take (k + 1) = (hex4 r).take k ++ [hexD (r / 16 ^ (3 - k) % 16)] := by
  obtain rfl | rfl | rfl | rfl : k = 0 ∨ k = 1 ∨ k = 2 ∨ k = 3 := by omega
  all_goals simp [hex4]
set_option maxHeartbeats 1000000 in
set_option maxRecDepth 100000 in
theorem writeEscape_any (B b : Nat) (l : List UInt8) (r : Nat) (w : World) (hr : r < 65536) (h : Bld B b l w) (hlen : l.length + 7 ≤ 1000000) (hBw : B ≤ w.heap.size) :
    Calls Try.prog 23 #[.pointer (some ⟨b, 0, none⟩), .int .i32 (r : Int)] w fun e w' => e = .returned (.tuple #[]) ∧ Used B b (l ++ 92 :: 117 :: hex4 r) w w' := by
  have h2 : l.length + (⟨#[92, 117]⟩ : ByteArray).size ≤ 1000000 := by show l.length + 2 ≤ _; omega
  go_enter Try.func23, Try.ntmps23
  go_wp2_with (first | (go_at_call 22; ((with_reducible refine (writeString_any B b l ⟨#[92, 117]⟩ _ h h2 hBw).mono ?_); rintro e w1 ⟨rfl, hu⟩)))
  go_loopw [4] (fun i wr => ∃ k : Nat, k ≤ 4 ∧ i = .int .i64 (12 - 4 * (k : Int)) ∧ Used B b (l ++ 92 :: 117 :: (hex4 r).take k) w wr) (fun i _ => (intOf i + 4).toNat)
  case atStart => exact ⟨0, by omega, rfl, hu⟩
  case round =>
    obtain ⟨k, hk, rfl, hw⟩ := hrel
    clear hu h2
    have hBr : B ≤ wr.heap.size := by have := hw.2.1.size; omega
    have hll : (l ++ 92 :: 117 :: (hex4 r).take k).length + 1 ≤ 1000000 := by
      have h4 : ((hex4 r).take k).length ≤ 4 := by rw [List.length_take]; have : (hex4 r).length = 4 := rfl; omega
      rw [List.length_append, List.length_cons, List.length_cons]; omega
    have HT := fun h => Veil.mk (hex_take r k h)
    obtain ⟨acc, hacc⟩ : ∃ acc, acc = l ++ 92 :: 117 :: (hex4 r).take k := ⟨_, rfl⟩
    have HA := Veil.mk hacc
    rw [← hacc] at hw hll
    clear hacc
    have hk4 : k = 0 ∨ k = 1 ∨ k = 2 ∨ k = 3 ∨ k = 4 := by omega
    clear hk
    rcases hk4 with rfl | hk4
    · have a1 : bits .and .i32 ((r : Int) / 4096) 15 = ((r / 4096 % 16 : Nat) : Int) := and15 (r / 4096) (by omega)
      have a2 : r / 4096 % 16 < 16 := by omega
      have HD := Veil.mk (digit_at (r / 4096 % 16) a2)
      have HT' : Veil (acc ++ [hexD (r / 4096 % 16)] = l ++ 92 :: 117 :: (hex4 r).take 1) := ⟨by rw [HA.out, (HT (by omega)).out]; simp⟩
      have hwb := fun w c h => writeByte_any B b acc c w h hll
      generalize hq : r / 4096 % 16 = q at a1 a2 HD HT'
      clear hq HA HT
      go_wp2_with (first | (go_at_call 29; ((with_reducible refine (hwb _ _ hw.bld hBr).mono ?_); rintro e w2 ⟨rfl, hu2⟩)))
      have hfin := hw.on hu2
      rw [HD.out, HT'.out] at hfin
      exact ⟨⟨1, by omega, rfl, hfin⟩, by simp [intOf]⟩
    rcases hk4 with rfl | hk4
    · have a1 : bits .and .i32 ((r : Int) / 256) 15 = ((r / 256 % 16 : Nat) : Int) := and15 (r / 256) (by omega)
      have a2 : r / 256 % 16 < 16 := by omega
      have HD := Veil.mk (digit_at (r / 256 % 16) a2)
      have HT' : Veil (acc ++ [hexD (r / 256 % 16)] = l ++ 92 :: 117 :: (hex4 r).take 2) := ⟨by rw [HA.out, (HT (by omega)).out]; simp⟩
      have hwb := fun w c h => writeByte_any B b acc c w h hll
      generalize hq : r / 256 % 16 = q at a1 a2 HD HT'
      clear hq HA HT
      go_wp2_with (first | (go_at_call 29; ((with_reducible refine (hwb _ _ hw.bld hBr).mono ?_); rintro e w2 ⟨rfl, hu2⟩)))
      have hfin := hw.on hu2
      rw [HD.out, HT'.out] at hfin
      exact ⟨⟨2, by omega, rfl, hfin⟩, by simp [intOf]⟩
    rcases hk4 with rfl | hk4
    · have a1 : bits .and .i32 ((r : Int) / 16) 15 = ((r / 16 % 16 : Nat) : Int) := and15 (r / 16) (by omega)
      have a2 : r / 16 % 16 < 16 := by omega
      have HD := Veil.mk (digit_at (r / 16 % 16) a2)
      have HT' : Veil (acc ++ [hexD (r / 16 % 16)] = l ++ 92 :: 117 :: (hex4 r).take 3) := ⟨by rw [HA.out, (HT (by omega)).out]; simp⟩
      have hwb := fun w c h => writeByte_any B b acc c w h hll
      generalize hq : r / 16 % 16 = q at a1 a2 HD HT'
      clear hq HA HT
      go_wp2_with (first | (go_at_call 29; ((with_reducible refine (hwb _ _ hw.bld hBr).mono ?_); rintro e w2 ⟨rfl, hu2⟩)))
      have hfin := hw.on hu2
      rw [HD.out, HT'.out] at hfin
      exact ⟨⟨3, by omega, rfl, hfin⟩, by simp [intOf]⟩
    rcases hk4 with rfl | hk4
    · have a1 : bits .and .i32 (r : Int) 15 = ((r % 16 : Nat) : Int) := and15 (r) (by omega)
      have a2 : r % 16 < 16 := by omega
      have HD := Veil.mk (digit_at (r % 16) a2)
      have HT' : Veil (acc ++ [hexD (r % 16)] = l ++ 92 :: 117 :: (hex4 r).take 4) := ⟨by rw [HA.out, (HT (by omega)).out]; simp⟩
      have hwb := fun w c h => writeByte_any B b acc c w h hll
      generalize hq : r % 16 = q at a1 a2 HD HT'
      clear hq HA HT
      go_wp2_with (first | (go_at_call 29; ((with_reducible refine (hwb _ _ hw.bld hBr).mono ?_); rintro e w2 ⟨rfl, hu2⟩)))
      have hfin := hw.on hu2
      rw [HD.out, HT'.out] at hfin
      exact ⟨⟨4, by omega, rfl, hfin⟩, by simp [intOf]⟩
    · obtain rfl : k = 4 := by omega
      have HE : Veil (acc = l ++ 92 :: 117 :: hex4 r) := ⟨by rw [HA.out]; rfl⟩
      go_wp2
      go_end0
      exact ⟨rfl, by rw [← HE.out]; exact hw⟩
end Go.Proofs.Ytbkgophgclpijaa
