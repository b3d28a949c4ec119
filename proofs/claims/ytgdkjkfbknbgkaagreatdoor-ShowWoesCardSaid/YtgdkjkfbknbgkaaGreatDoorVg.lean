/- Package show: what is shown of arrays in a machine. -/
import Derived.Test.YtgdkjkfbknbgkaaGreatDoorVf
namespace Go.Proofs.YtgdkjkfbknbgkaaGreatDoor
open Go Go.RowKit

set_option maxHeartbeats 1000000 in
set_option maxRecDepth 100000 in
theorem printed_arr (W : World) (m o : Nat) (v : Vt) (av ev : Value) (cs : Array Value) (hb : Box W o 99 cs) (hc0 : cs[0]? = some (.int .i64 1)) (hc4 : cs[4]? = some ev) (hev : ∃ ao n c, ev = .slice ao n c) (r : ByteArray)
    (HSO : Veil (∀ W', Below W.heap.size W W' → Calls Tryz.prog 82 #[.pointer (some ⟨m, 0, none⟩), valV v] W' fun e w' => e = .returned (.pointer (some ⟨o, 0, none⟩)) ∧ Below W'.heap.size W' w'))
    (HA : Veil (∀ W', Below W.heap.size W W' → Calls Tryz.prog 93 #[.pointer (some ⟨m, 0, none⟩), ev, av] W' fun e w' => e = .returned (.string r) ∧ Below W'.heap.size W' w')) :
    Calls Tryz.prog 61 #[.pointer (some ⟨m, 0, none⟩), valV v, av] W fun e w' => e = .returned (.string r) ∧ Below W.heap.size W w' := by
  obtain ⟨ao, n, c, rfl⟩ := hev
  have b1 := Box.new W 30 #[.int .i64 v.1, .int .i64 v.2.1, .string v.2.2]
  have bb : Below W.heap.size W (W.alloc (.cells #[.int .i64 v.1, .int .i64 v.2.1, .string v.2.2] 30)) := (Below.refl _ _).alloc (Nat.le_refl _) _
  obtain ⟨kb, hkb⟩ : ∃ kb, W.heap.size = kb := ⟨_, rfl⟩
  obtain ⟨W0, hW0⟩ : ∃ W0, W.alloc (.cells #[.int .i64 v.1, .int .i64 v.2.1, .string v.2.2] 30) = W0 := ⟨_, rfl⟩
  rw [hW0] at b1 bb
  have HW0 := Veil.mk (And.intro hW0 hkb)
  rw [hkb] at b1
  have HBB := Veil.mk (And.intro bb b1)
  have x0 : W0.cell? ⟨kb, 0, none⟩ = some (.int .i64 v.1) := b1.at_ 0
  have x1 : W0.cell? ⟨kb, 1, none⟩ = some (.int .i64 v.2.1) := b1.at_ 1
  have x2 : W0.cell? ⟨kb, 2, none⟩ = some (.string v.2.2) := b1.at_ 2
  clear hW0 hkb b1 bb
  have HSO := Veil.mk (HSO.out W0 HBB.out.1)
  have HBX := Veil.mk (hb.below HBB.out.1)
  have HC := Veil.mk (And.intro hc0 hc4)
  clear hb hc0 hc4
  go_enter Tryz.func61, Tryz.ntmps61
  go_upto_region 1 with (fail)
  rw [HW0.out.1, HW0.out.2]
  go_upto_region 4 with (go_at_call 82; ((with_reducible refine HSO.out.mono ?_); rintro e w4 ⟨rfl, hb4⟩; have HB4 := Veil.mk hb4; clear hb4))
  have o0 : w4.cell? ⟨o, 0, none⟩ = some (.int .i64 1) := by rw [(HBX.out.below HB4.out).at_ 0]; exact HC.out.1
  have o4 : w4.cell? ⟨o, 4, none⟩ = some (.slice ao n c) := by rw [(HBX.out.below HB4.out).at_ 4]; exact HC.out.2
  have HA := Veil.mk (HA.out w4 (HBB.out.1.trans (HB4.out.mono HBB.out.1.size)))
  go_wp2_with (go_at_call 93; ((with_reducible refine HA.out.mono ?_); rintro e w9 ⟨rfl, hb9⟩; have HB9 := Veil.mk hb9; clear hb9))
  go_ret
  exact ⟨rfl, (HBB.out.1.trans (HB4.out.mono HBB.out.1.size)).trans (HB9.out.mono (Nat.le_trans HBB.out.1.size HB4.out.size))⟩
/-- In a machine at m, whose heap is at h: a value is an array of these. -/
def ArrAt (W : World) (h : Nat) (v : Vt) (l : List Vt) : Prop := v.1 = 9 ∧ l.length ≤ 1000000 ∧ ∃ o cs ev, (∀ W', Below W.heap.size W W' → Calls Tryz.prog 26 #[.pointer (some ⟨h, 0, none⟩), .int .i64 v.2.1] W' fun e w' => e = .returned (.pointer (some ⟨o, 0, none⟩)) ∧ w' = W') ∧ Box W o 99 cs ∧ cs[0]? = some (.int .i64 1) ∧ cs[4]? = some ev ∧ RowV W ev l
/-- What is shown of a value within 3 - k arrays. -/
def Shown (W : World) (m h : Nat) : Nat → Vt → ByteArray → Prop
  | 0, v, s => (∀ W' a, Below W.heap.size W W' → Calls Tryz.prog 28 #[.pointer (some ⟨m, 0, none⟩), valV v, .int .i64 a] W' fun e w' => e = .returned (.string s) ∧ Below W'.heap.size W' w') ∨ ((∃ l, ArrAt W h v l) ∧ s = ⟨#[91, 46, 46, 93]⟩)
  | k + 1, v, s => (∀ W' a, Below W.heap.size W W' → Calls Tryz.prog 28 #[.pointer (some ⟨m, 0, none⟩), valV v, .int .i64 a] W' fun e w' => e = .returned (.string s) ∧ Below W'.heap.size W' w') ∨ ∃ l parts, ArrAt W h v l ∧ parts.length = l.length ∧ (Lib.join (parts.map (·.data.toList)) [44, 32]).length ≤ 140737488355328 ∧ (∀ (i : Nat) x p, l[i]? = some x → parts[i]? = some p → Shown W m h k x p) ∧ s = arrS parts
theorem within_shown {W : World} {m h : Nat} (hm : W.cell? ⟨m, 0, none⟩ = some (.pointer (some ⟨h, 0, none⟩))) (hml : m < W.heap.size) : ∀ (k : Nat), k ≤ 3 → ∀ v s, Shown W m h k v s → ∀ W', Below W.heap.size W W' → Calls Tryz.prog 28 #[.pointer (some ⟨m, 0, none⟩), valV v, .int .i64 (((3 - k : Nat) : Int))] W' fun e w' => e = .returned (.string s) ∧ Below W'.heap.size W' w' := by
  have key : ∀ v l (r : ByteArray) av, ArrAt W h v l → (∀ W' ev, RowV W ev l → Below W.heap.size W W' → Calls Tryz.prog 93 #[.pointer (some ⟨m, 0, none⟩), ev, av] W' fun e w' => e = .returned (.string r) ∧ Below W'.heap.size W' w') → ∀ W', Below W.heap.size W W' → Calls Tryz.prog 28 #[.pointer (some ⟨m, 0, none⟩), valV v, av] W' fun e w' => e = .returned (.string r) ∧ Below W'.heap.size W' w' := by
    rintro v l r av ⟨h9, -, o, cs, ev, hob, hbx, h0, h4, hrow⟩ HA W' hb
    refine within_obj W' _ av v h9 r ⟨fun W2 hb2 => ?_⟩
    have hbb := hb.trans (hb2.mono hb.size)
    refine printed_arr W2 m o v av ev cs (hbx.below hbb) h0 h4 (by obtain ⟨ao, cap, e, -⟩ := hrow; exact ⟨_, _, _, e⟩) r ⟨fun W3 hb3 => ?_⟩ ⟨fun W3 hb3 => HA W3 ev hrow (hbb.trans (hb3.mono hbb.size))⟩
    have hb4 := hbb.trans (hb3.mono hbb.size)
    refine object_yes (W := W3) m h v (by rw [hb4.cell (p := ⟨m, 0, none⟩) hml]; exact hm) (Nat.lt_of_lt_of_le hml hb4.size) o ⟨fun W5 hb5 => ?_⟩
    exact of_yes h o v h9 W5 ⟨fun W6 hb6 => hob W6 ((hb4.trans (hb5.mono hb4.size)).trans (hb6.mono (Nat.le_trans hb4.size hb5.size)))⟩
  intro k
  induction k with
  | zero =>
    intro _ v s hs W' hb
    rcases hs with hs | ⟨⟨l, hl⟩, rfl⟩
    · exact hs W' _ hb
    · exact key v l _ _ hl (fun W2 ev _ hb2 => (array_deep _ ev W2).mono (fun e w' ⟨he, hw⟩ => ⟨he, hw ▸ Below.refl _ _⟩)) W' hb
  | succ k ih =>
    intro hk v s hs W' hb
    rcases hs with hs | ⟨l, parts, hl, hpl, hsz, hsh, rfl⟩
    · exact hs W' _ hb
    · refine key v l _ _ hl (fun W2 ev hrow hb2 => ?_) W' hb
      refine array_shown _ ev (3 - (k + 1)) (by omega) l parts hpl hl.2.1 W2 (hrow.on hb2) hsz (fun i x p hi hp W3 hb3 => ?_)
      have := ih (by omega) x p (hsh i x p hi hp) W3 (hb2.trans (hb3.mono hb2.size))
      rw [show ((3 - (k + 1) : Nat) : Int) + 1 = ((3 - k : Nat) : Int) by omega]
      exact this
set_option maxHeartbeats 1000000 in
set_option maxRecDepth 100000 in
theorem show_shown {W : World} {m h : Nat} (hm : W.cell? ⟨m, 0, none⟩ = some (.pointer (some ⟨h, 0, none⟩))) (hml : m < W.heap.size) (v : Vt) (s : ByteArray) (hs : Shown W m h 3 v s) : Calls Tryz.prog 11 #[.pointer (some ⟨m, 0, none⟩), valV v] W fun e w' => e = .returned (.string s) ∧ Below W.heap.size W w' := by
  have HWI : Veil (∀ W', Below W.heap.size W W' → Calls Tryz.prog 28 #[.pointer (some ⟨m, 0, none⟩), valV v, .int .i64 0] W' fun e w' => e = .returned (.string s) ∧ Below W'.heap.size W' w') := ⟨fun W' hb => within_shown hm hml 3 (Nat.le_refl _) v s hs W' hb⟩
  clear hm hml hs
  have b1 := Box.new W 30 #[.int .i64 v.1, .int .i64 v.2.1, .string v.2.2]
  have bb : Below W.heap.size W (W.alloc (.cells #[.int .i64 v.1, .int .i64 v.2.1, .string v.2.2] 30)) := (Below.refl _ _).alloc (Nat.le_refl _) _
  obtain ⟨kb, hkb⟩ : ∃ kb, W.heap.size = kb := ⟨_, rfl⟩
  obtain ⟨W0, hW0⟩ : ∃ W0, W.alloc (.cells #[.int .i64 v.1, .int .i64 v.2.1, .string v.2.2] 30) = W0 := ⟨_, rfl⟩
  rw [hW0] at b1 bb
  have HW0 := Veil.mk (And.intro hW0 hkb)
  rw [hkb] at b1
  have HBB := Veil.mk (And.intro bb b1)
  have x0 : W0.cell? ⟨kb, 0, none⟩ = some (.int .i64 v.1) := b1.at_ 0
  have x1 : W0.cell? ⟨kb, 1, none⟩ = some (.int .i64 v.2.1) := b1.at_ 1
  have x2 : W0.cell? ⟨kb, 2, none⟩ = some (.string v.2.2) := b1.at_ 2
  clear hW0 hkb b1 bb
  go_enter Tryz.func11, Tryz.ntmps11
  go_upto_region 1 with (fail)
  rw [HW0.out.1, HW0.out.2]
  have HWI := Veil.mk (HWI.out W0 HBB.out.1)
  go_wp2_with (go_at_call 28; ((with_reducible refine HWI.out.mono ?_); rintro e w9 ⟨rfl, hb9⟩; have HB9 := Veil.mk hb9; clear hb9))
  go_ret
  exact ⟨rfl, HBB.out.1.trans (HB9.out.mono HBB.out.1.size)⟩
theorem MM.arrAt {W : World} {h A m : Nat} {f : Nat → Int} {os : List OS} (H : MM W h A m f os) (i : Nat) (b : Nat) (cs : Array Value) (ho : os[i]? = some (b, cs)) (h0 : cs[0]? = some (.int .i64 1)) (ev : Value) (h4 : cs[4]? = some ev) (l : List Vt) (hr : RowV W ev l) (hl : l.length ≤ 1000000) (s : ByteArray) : ArrAt W h (9, (i : Int) + 1, s) l :=
  ⟨rfl, hl, b, cs, ev, fun _ hb => (H.on hb).obj i (b, cs) ho, H.ob (b, cs) (List.mem_of_getElem? ho), h0, h4, hr⟩
end Go.Proofs.YtgdkjkfbknbgkaaGreatDoor
