/- Of: every text's units are those that the decoding gives. -/
import Derived.Test.YtgdkjkfbknbgkaaGreatDoorWa
namespace Go.Proofs.YtgdkjkfbknbgkaaGreatDoor.W
open Go.RowKit

theorem cells_u2 (c : Nat) (hc : c < 65536) : Lib.byteCells (u2 c) = [.int .u8 ((c : Int) / 256), .int .u8 ((c : Int) % 256)] := by
  simp [Lib.byteCells, u2]; omega

theorem cells_u4 (c : Nat) (hc : 65536 ≤ c) (h : c ≤ 1114111) : Lib.byteCells (u2 (55296 + (c - 65536) / 1024) ++ u2 (56320 + (c - 65536) % 1024)) = [.int .u8 ((55296 + ((c : Int) - 65536) / 1024) / 256), .int .u8 ((55296 + ((c : Int) - 65536) / 1024) % 256), .int .u8 ((56320 + ((c : Int) - 65536) % 1024) / 256), .int .u8 ((56320 + ((c : Int) - 65536) % 1024) % 256)] := by
  simp [Lib.byteCells, u2]; omega

set_option maxRecDepth 1000000 in
set_option maxHeartbeats 2000000 in
theorem of_any (s : ByteArray) (hs : s.size ≤ 16777216) (w : World) :
    Calls Tryz.prog 20 #[.string s] w fun e w' => e = .returned (.string ⟨(ofB s).toArray⟩) ∧ Below w.heap.size w w' := by
  obtain ⟨i0, hi, hz0, hz1, hz2⟩ := info_parts Tryz.info5
  obtain ⟨w1, hr, hown1, hg1⟩ := run_make_own (P := Tryz.prog) w w.heap.size 107 5 i0 (.int .u8 0) 1 Tryz.underlying107 hi hz0 hz1 .i64 .i64 (2 * s.size) (by rw [hz2]; omega) (by unfold maxLen; omega) (Nat.le_refl _)
  rw [show ((2 * s.size : Nat) : Int) = 2 * (s.size : Int) by omega] at hr
  have hb1 : Below w.heap.size w w1 := (Below.refl _ _).grown hg1 (Nat.le_refl _) (fun k h => by cases h)
  have hsz1 : w.heap.size ≤ w1.heap.size := hb1.size
  go_enter Tryz.func20, Tryz.ntmps20
  go_wp2
  go_loopw [3] (fun v wr => ∃ (pos fuel : Nat) (acc : List UInt8), wr.ownsRow w.heap.size 5 1 v acc.length (Lib.byteCells acc) ∧ wr.heap[w1.heap.size]? = some (.stringIter s pos) ∧ Below w.heap.size w wr ∧ Hid (acc ++ ofFrom s fuel pos = ofB s) ∧ s.size ≤ pos + fuel ∧ acc.length ≤ 4 * pos) (fun _ wr => s.size - wr.iterPos w1.heap.size)
  case atStart => exact ⟨0, s.size, [], hown1.alloc _, World.iter_heap w1 s 0, hb1.alloc hsz1 _, rfl, by omega, by simp⟩
  case round =>
    obtain ⟨pos, fuel, acc, hown, hit, hbw, HS, hb, hlen⟩ := hrel
    clear hown1 hg1 hr hb1
    have hpos0 := iterPos_of hit
    by_cases hp : pos < s.size
    · have hnx : ∀ ty, (Instr.next (.pointer (some ⟨w1.heap.size, 0, none⟩)) true ty).run Tryz.prog wr = _ := fun ty => Lib.run_next_any_at wr w1.heap.size s pos ty hit hp
      have hwd := width_pos s pos hp
      obtain ⟨fuel, rfl⟩ : ∃ f', fuel = f' + 1 := ⟨fuel - 1, by omega⟩
      have hst := ofFrom_step s fuel pos hp
      have hrl := ofR_length (Utf8.decode s pos).1
      obtain ⟨c, hcd⟩ : ∃ c, c = (Utf8.decode s pos).1 := ⟨_, rfl⟩
      obtain ⟨q, hqd⟩ : ∃ q, q = pos + (Utf8.decode s pos).2 := ⟨_, rfl⟩
      have hcle : c ≤ 1114111 := by rw [hcd]; exact decode_top s pos
      have hpq : pos < q := by omega
      rw [← hcd, ← hqd] at hnx hst
      rw [← hcd] at hrl
      have hit2 := Lib.iterAt_heap wr w1.heap.size s pos q hit
      have hbw2 := Lib.below_iterAt hbw (k := w1.heap.size) hsz1 s q
      have hown2 := ownsRow_iterAt hown hit q
      clear hwd hcd hqd
      obtain ⟨W1, hW1⟩ : ∃ W1, W1 = wr.iterAt w1.heap.size s q := ⟨_, rfl⟩
      rw [← hW1] at hnx hit2 hbw2 hown2
      have hBlt := lt_of_block hit2
      have HS2 : Hid (acc ++ ofR c ++ ofFrom s fuel q = ofB s) := by have := HS.out; rw [hst, ← List.append_assoc] at this; exact this
      clear hW1 hit hown hbw HS hst
      by_cases hc : c < 65536
      · have hci : (c : Int) < 65536 := by omega
        have HC := Lib.hid (cells_u2 c hc)
        have HR : Hid (ofR c = u2 c) := by unfold ofR; rw [if_pos hc]; exact rfl
        go_wp2_with (at_builtin; refine wpList_append_own _ rfl _ _ 107 rfl w.heap.size 5 i0 (.int .u8 0) 1 1 Tryz.underlying107 hi hz0 hz1 hz2 rfl (by decide) _ _ _ rfl (hown2.alloc _) ⟨W1.heap.size, 0, none⟩ 2 2 [_, _] rfl rfl (cells_new _ _ _) (fun x hx => by simp at hx; rcases hx with rfl | rfl <;> rfl) (by unfold maxLen; omega) (by omega) (by simp; omega) ?_; intro v' w3 hown' hgrow3 hnil3; refine Hid.out ?_)
        have hown3 := hown'
        rw [← HC.out, ← Lib.byteCells_append, ← HR.out, show acc.length + 2 = (acc ++ ofR c).length by rw [HR.out]; simp [u2]] at hown3
        have hit3 : w3.heap[w1.heap.size]? = some (.stringIter s q) := by
          rw [hgrow3.block w1.heap.size (by simp; omega) (own_ne_iter hown2 hit2), Below.heap_alloc _ _ _ hBlt]; exact hit2
        have hbw3 : Below w.heap.size w w3 := Below.grown (hbw2.alloc (by omega) _) hgrow3 (by simp; omega) (fun j hj => (hown2.lt _ hj).1)
        clear hown' hgrow3 hnil3
        refine Lib.hid ?_
        go_wp2
        go_roundw
        case rel => exact ⟨q, fuel, acc ++ ofR c, hown3, hit3, hbw3, HS2, by omega, by simp; omega⟩
        case measure => rw [iterPos_of hit3, hpos0]; omega

      · have hci : ¬ (c : Int) < 65536 := by omega
        have hbit : bits .and .i32 ((c : Int) - 65536) 1023 = ((c : Int) - 65536) % 1024 := bits_mask .i32 31 (by decide) wraps_i32 10 (by decide) _ (by omega) (by omega)
        have hm0 : 0 ≤ ((c : Int) - 65536) % 1024 := by omega
        have hm1 : ((c : Int) - 65536) % 1024 ≤ 1023 := by omega
        have HC := Lib.hid (cells_u4 c (by omega) hcle)
        have HR : Hid (ofR c = u2 (55296 + (c - 65536) / 1024) ++ u2 (56320 + (c - 65536) % 1024)) := by unfold ofR; rw [if_neg hc]; exact rfl
        go_wp2_with (at_builtin; refine wpList_append_own _ rfl _ _ 107 rfl w.heap.size 5 i0 (.int .u8 0) 1 1 Tryz.underlying107 hi hz0 hz1 hz2 rfl (by decide) _ _ _ rfl (hown2.alloc _) ⟨W1.heap.size, 0, none⟩ 4 4 [_, _, _, _] rfl rfl (cells_new _ _ _) (fun x hx => by simp at hx; rcases hx with rfl | rfl | rfl | rfl <;> rfl) (by unfold maxLen; omega) (by omega) (by simp; omega) ?_; intro v' w3 hown' hgrow3 hnil3; refine Hid.out ?_)
        have hown3 := hown'
        rw [← HC.out, ← Lib.byteCells_append, ← HR.out, show acc.length + 4 = (acc ++ ofR c).length by rw [HR.out]; simp [u2]] at hown3
        have hit3 : w3.heap[w1.heap.size]? = some (.stringIter s q) := by
          rw [hgrow3.block w1.heap.size (by simp; omega) (own_ne_iter hown2 hit2), Below.heap_alloc _ _ _ hBlt]; exact hit2
        have hbw3 : Below w.heap.size w w3 := Below.grown (hbw2.alloc (by omega) _) hgrow3 (by simp; omega) (fun j hj => (hown2.lt _ hj).1)
        clear hown' hgrow3 hnil3
        refine Lib.hid ?_
        go_wp2
        go_roundw
        case rel => exact ⟨q, fuel, acc ++ ofR c, hown3, hit3, hbw3, HS2, by omega, by simp; omega⟩
        case measure => rw [iterPos_of hit3, hpos0]; omega

    · have hnx : ∀ ty, (Instr.next (.pointer (some ⟨w1.heap.size, 0, none⟩)) true ty).run Tryz.prog wr = _ := fun ty => Lib.run_next_end_at wr w1.heap.size s pos ty hit hp
      have e : acc = ofB s := by have := HS.out; rw [ofFrom_end s fuel pos hp, List.append_nil] at this; exact this
      have HE := Lib.hid e
      clear e
      have hcv := run_string_own (P := Tryz.prog) (w := wr) (src := 107) (dst := 9) (e := 5) Tryz.underlying107 Tryz.underlying5 Tryz.underlying9 hown
      go_wp2
      go_ret
      exact ⟨ret_str HE.out, hbw⟩
end Go.Proofs.YtgdkjkfbknbgkaaGreatDoor.W
