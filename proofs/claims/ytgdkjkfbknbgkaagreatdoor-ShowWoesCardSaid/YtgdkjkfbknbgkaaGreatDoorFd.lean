/- Tables: find. -/
import Derived.Test.YtgdkjkfbknbgkaaGreatDoorFc
namespace Go.Proofs.YtgdkjkfbknbgkaaGreatDoor
open Go.RowKit

theorem vne {x v : Vt} (h : ¬ x = v) : (¬ v.1 = x.1) ∨ (v.1 = x.1 ∧ ¬ v.2.1 = x.2.1) ∨ (v.1 = x.1 ∧ v.2.1 = x.2.1 ∧ ¬ v.2.2.toList = x.2.2.toList) := by
  obtain ⟨a, b, c⟩ := x
  obtain ⟨a', b', c'⟩ := v
  by_cases h1 : a' = a
  · by_cases h2 : b' = b
    · refine .inr (.inr ⟨h1, h2, fun h3 => h ?_⟩)
      simp only at h3 h1 h2
      rw [ByteArray.toList_eq, ByteArray.toList_eq] at h3
      have : c' = c := by apply ByteArray.ext; apply Array.ext'; exact h3
      rw [h1, h2, this]
    · exact .inr (.inl ⟨h1, h2⟩)
  · exact .inl h1
theorem slFlat_at : ∀ (l : List Sl) (i : Nat) (s : Sl), l[i]? = some s → ∀ c, c < 9 → (slFlat l)[i * 9 + c]? = (slCells s)[c]?
  | [], i, s, h, c, _ => by simp at h
  | x :: l, 0, s, h, c, hc => by
    simp at h; subst h
    show (slCells x ++ slFlat l)[0 * 9 + c]? = _
    rw [Nat.zero_mul, Nat.zero_add, List.getElem?_append_left (by simpa [slCells] using hc)]
  | x :: l, i + 1, s, h, c, hc => by
    have h' : l[i]? = some s := by simpa using h
    show (slCells x ++ slFlat l)[(i + 1) * 9 + c]? = _
    rw [List.getElem?_append_right (by simp [slCells]; omega), ← slFlat_at l i s h' c hc]
    congr 1
    simp [slCells]; omega
theorem slFlat_len (l : List Sl) : (slFlat l).length = l.length * 9 := by
  induction l with
  | nil => rfl
  | cons x l ih =>
    show (slCells x ++ slFlat l).length = _
    rw [List.length_append, ih]
    simp [slCells]; omega
theorem add_off (g j : Nat) : (⟨g, 0, none⟩ : Addr).add j = ⟨g, j, none⟩ := by unfold Addr.add; split <;> simp_all
/-- The cells of a slot. -/
structure SlotAt (w : World) (g i : Nat) (s : Sl) : Prop where
  k0 : w.cell? ⟨g, i * 9, none⟩ = some (.int .i64 s.key.1)
  k1 : w.cell? ⟨g, i * 9 + 1, none⟩ = some (.int .i64 s.key.2.1)
  k2 : w.cell? ⟨g, i * 9 + 2, none⟩ = some (.string s.key.2.2)
  v0 : w.cell? ⟨g, i * 9 + 3, none⟩ = some (.int .i64 s.val.1)
  v1 : w.cell? ⟨g, i * 9 + 4, none⟩ = some (.int .i64 s.val.2.1)
  v2 : w.cell? ⟨g, i * 9 + 5, none⟩ = some (.string s.val.2.2)
  f : w.cell? ⟨g, i * 9 + 6, none⟩ = some (.int .i64 s.fl)
  l : w.cell? ⟨g, i * 9 + 7, none⟩ = some (.bool s.live)
  n : w.cell? ⟨g, i * 9 + 8, none⟩ = some (.int .i64 (s.next : Int))
theorem TabAt.slot {w : World} {B t g cap n : Nat} {T : Tab} {vb vc : Value} (h : TabAt w B t T (.slice (some ⟨g, 0, none⟩) n cap) vb vc) (i : Nat) (s : Sl) (hs : T.sl[i]? = some s) : SlotAt w g i s := by
  have key : ∀ c u, c < 9 → (slCells s)[c]? = some u → w.cell? ⟨g, i * 9 + c, none⟩ = some u := fun c u hc hu => by
    have := h.os.cells (g := g) rfl (i * 9 + c) u (by rw [slFlat_at T.sl i s hs c hc]; exact hu)
    rwa [add_off] at this
  exact ⟨key 0 _ (by omega) rfl, key 1 _ (by omega) rfl, key 2 _ (by omega) rfl, key 3 _ (by omega) rfl, key 4 _ (by omega) rfl, key 5 _ (by omega) rfl, key 6 _ (by omega) rfl, key 7 _ (by omega) rfl, key 8 _ (by omega) rfl⟩
theorem TabAt.bcell {w : World} {B t g cap n : Nat} {T : Tab} {vs vc : Value} (h : TabAt w B t T vs (.slice (some ⟨g, 0, none⟩) n cap) vc) (b : Nat) (hb : b < T.nb) : w.cell? ⟨g, b, none⟩ = some (.int .i64 (lastB T.hs b : Int)) := by
  have := h.ob.cells (g := g) rfl b (.int .i64 (lastB T.hs b : Int)) (by unfold bucketC; rw [List.getElem?_map, List.getElem?_range hb]; rfl)
  rwa [add_off] at this
theorem below_drew1 (W : World) : Below W.heap.size W W.drew := (Below.refl _ W).drew
/-- What find answers. -/
def FindPost (T : Tab) (k : Vt) (w : World) (e : Ending) (w' : World) : Prop := ∃ r : Int, e = .returned (.int .i64 r) ∧ ((∃ i : Nat, r = (i : Int) ∧ Found T.sl k i) ∨ (r = -1 ∧ ∀ i, ¬ Found T.sl k i)) ∧ Below w.heap.size w w'

set_option maxHeartbeats 2000000 in
set_option maxRecDepth 100000 in
theorem find_empty (t cap : Nat) (ao : Option Addr) (a b d : Value) (T : Tab) (h0 : T.sl = []) (k : Vt) (w : World) (hB : Box w t 173 #[a, .slice ao 0 cap, b, d]) :
    Calls Tryz.prog 87 #[.pointer (some ⟨t, 0, none⟩), valV k] w (FindPost T k w) := by
  have hc1 : (w.alloc (.cells #[.int .i64 k.1, .int .i64 k.2.1, .string k.2.2] 30)).cell? ⟨t, 1, none⟩ = some (.slice ao 0 cap) := (hB.more _).at_ 1
  have HF : Veil (FindPost T k w (.returned (.int .i64 (-1))) (w.alloc (.cells #[.int .i64 k.1, .int .i64 k.2.1, .string k.2.2] 30))) := ⟨⟨-1, rfl, .inr ⟨rfl, fun i ⟨s, hs, _⟩ => by rw [h0] at hs; simp at hs⟩, (Below.refl _ _).alloc (Nat.le_refl _) _⟩⟩
  go_enter Tryz.func87, Tryz.ntmps87
  go_wp2
  go_ret
  exact HF.out

set_option maxHeartbeats 4000000 in
set_option maxRecDepth 100000 in
theorem find_any (B t : Nat) (T : Tab) (vs vb vc : Value) (hI : Inv T) (hnb : 0 < T.nb) (k : Vt) (hk : k.2.2.size ≤ 1000) (w : World) (h : TabAt w B t T vs vb vc) :
    Calls Tryz.prog 87 #[.pointer (some ⟨t, 0, none⟩), valV k] w (FindPost T k w) := by
  obtain ⟨j, hj1, hj2, hnj⟩ : ∃ j : Nat, 1 ≤ j ∧ j ≤ 30 ∧ T.nb = 2 ^ j := by
    rcases hI.nb with h | h
    · omega
    · exact h
  obtain ⟨ab, cb, rfl, hcb, hgb, hmb⟩ := slice_own h.ob
  obtain ⟨gb, rfl⟩ := hgb hnb
  obtain ⟨sa, cs, rfl, hcs, hgs2, hms⟩ := slice_own h.os
  have hbl := bucketOf_lt k hnb
  have hq0 := h.bcell (bucketOf T.nb k) hbl
  have hnb2 : T.nb ≤ 1073741824 := by rw [hnj]; exact Nat.le_trans (Nat.pow_le_pow_right (by omega) hj2) (by decide)
  have HB := Veil.mk (fun w hB => bucket_any t T.nb cb (some ⟨gb, 0, none⟩) (.slice sa T.sl.length cs) (.int .i64 (T.cnt : Int)) vc j hj2 hnj k hk w hB)
  have hfirst := Veil.mk (Seek.first T hI k)
  have hll := lastB_le T.hs (bucketOf T.nb k)
  have hlen := hI.hlen
  have hcap := hI.cap
  obtain ⟨q, hq⟩ : ∃ q, q = bucketOf T.nb k := ⟨_, rfl⟩
  obtain ⟨p0, hp0⟩ : ∃ p, p = lastB T.hs q := ⟨_, rfl⟩
  rw [← hq] at hbl hq0 HB hfirst hll
  rw [← hp0] at hq0 hfirst hll
  have hp1 : p0 ≤ 1073741824 := by omega
  have HI := Veil.mk hI
  have hb0 := h.box
  obtain ⟨W, hW⟩ : ∃ W, W = w.alloc (.cells #[.int .i64 k.1, .int .i64 k.2.1, .string k.2.2] 30) := ⟨_, rfl⟩
  have hBW : Below w.heap.size w W := by rw [hW]; exact (Below.refl _ _).alloc (Nat.le_refl _) _
  have hT : TabAt W B t T (.slice sa T.sl.length cs) (.slice (some ⟨gb, 0, none⟩) T.nb cb) vc := h.on hBW
  have hx : Box W w.heap.size 30 #[.int .i64 k.1, .int .i64 k.2.1, .string k.2.2] := by rw [hW]; exact Box.new w _ _
  have HW := Veil.mk hW
  have HTW := Veil.mk hT
  have HX := Veil.mk hx
  have x0 : W.cell? ⟨w.heap.size, 0, none⟩ = some (.int .i64 k.1) := hx.at_ 0
  have x1 : W.cell? ⟨w.heap.size, 1, none⟩ = some (.int .i64 k.2.1) := hx.at_ 1
  have x2 : W.cell? ⟨w.heap.size, 2, none⟩ = some (.string k.2.2) := hx.at_ 2
  have t1 : W.cell? ⟨t, 1, none⟩ = some (.slice (some ⟨gb, 0, none⟩) T.nb cb) := hT.box.at_ 1
  have b1 : W.cell? ⟨gb, q, none⟩ = some (.int .i64 (p0 : Int)) := by
    have := hBW.cell (p := ⟨gb, q, none⟩) (World.block_lt_of_cell? w _ hq0)
    rw [this]; exact hq0
  have l1 : t < W.heap.size := hT.box.lt
  have l2 : w.heap.size < W.heap.size := hx.lt
  have l3 : gb < W.heap.size := World.block_lt_of_cell? W _ b1
  have hTB := Veil.mk (fun W' hb => HB.out W' (hT.box.on (w' := W') (B := W.heap.size) hb hT.box.lt))
  have e1 : ((T.nb : Int) == 0) = false := beq_eq_false_iff_ne.2 (by omega)
  have e2 : (0 : Int) ≤ (q : Int) := by omega
  have e3 : (q : Int) < (T.nb : Int) := by omega
  have e4 : IntKind.i64.wrap ((p0 : Int) - 1) = (p0 : Int) - 1 := IntWalk.i64_in _ (by omega)
  have tw : (w.alloc (.cells #[.int .i64 k.1, .int .i64 k.2.1, .string k.2.2] 30)).cell? ⟨t, 1, none⟩ = some (.slice (some ⟨gb, 0, none⟩) T.nb cb) := (hb0.more _).at_ 1
  clear h hq0 hq hp0 hW hlen hcap hI hb0 hT hx hbl HB hnj hj1 hj2 hgb
  go_enter Tryz.func87, Tryz.ntmps87
  go_upto_region 3 with (fail)
  rw [← HW.out]
  have tw1 := trivial
  clear tw
  go_region_held3 (fun w' => w'.cell? ⟨w.heap.size, 0, none⟩ = some (.int .i64 k.1) ∧ w'.cell? ⟨w.heap.size, 1, none⟩ = some (.int .i64 k.2.1) ∧ w'.cell? ⟨w.heap.size, 2, none⟩ = some (.string k.2.2) ∧ w'.cell? ⟨t, 1, none⟩ = some (.slice (some ⟨gb, 0, none⟩) T.nb cb) ∧ w'.cell? ⟨gb, q, none⟩ = some (.int .i64 (p0 : Int))) (go_keep) (((with_reducible refine (hTB.out _ (below_drew1 W)).mono ?_); rintro e w1 ⟨rfl, hb1⟩; have y0 := (old_cells hb1).1 _ 0 l2; have y1 := (old_cells hb1).1 _ 1 l2; have y2 := (old_cells hb1).1 _ 2 l2; have y3 := (old_cells hb1).1 _ 1 l1; have y4 := (old_cells hb1).1 _ q l3))
  have hb2 : Below W.heap.size W w1 := (below_drew1 W).trans hb1
  clear y0 y1 y2 y3 y4 hb1 tw1
  go_wp2
  go_loopw [5] (fun i wr => ∃ p m : Nat, i = .int .i64 ((p : Int) - 1) ∧ Veil (Seek T k p m) ∧ p ≤ 1073741824 ∧ Below W.heap.size W wr) (fun i _ => (intOf i + 1).toNat)
  case atStart => exact ⟨p0, T.sl.length, rfl, hfirst, hp1, hb2⟩
  case round =>
    obtain ⟨p, m, rfl, hs, hp, hbw⟩ := hrel
    clear hb2 hp1 e2 e3 e4
    rcases p with _ | p
    · have HF : Veil (FindPost T k w (.returned (.int .i64 (-1))) wr) := ⟨⟨-1, rfl, .inr ⟨rfl, hs.out.none HI.out⟩, hBW.trans (hbw.mono hBW.size)⟩⟩
      rw [show ((0 : Nat) : Int) - 1 = -1 from rfl]
      go_wp2
      go_ret
      exact HF.out
    · obtain ⟨hpm, hpl, s, hsp, hsn, hlow⟩ := hs.out.at_ HI.out
      obtain ⟨gs, rfl⟩ := hgs2 (by omega)
      have hT := HTW.out.on hbw
      have hsl := hT.slot p s hsp
      have hT0 : wr.cell? ⟨t, 0, none⟩ = some (.slice (some ⟨gs, 0, none⟩) T.sl.length cs) := hT.box.at_ 0
      have y0 := (hbw.cell (p := ⟨w.heap.size, 0, none⟩) l2).trans x0
      have y1 := (hbw.cell (p := ⟨w.heap.size, 1, none⟩) l2).trans x1
      have y2 := (hbw.cell (p := ⟨w.heap.size, 2, none⟩) l2).trans x2
      have hnx := lastB_le (T.hs.take p) (bucketOf T.nb k)
      rw [← hsn, List.length_take] at hnx
      have hnx2 : s.next ≤ p := by omega
      have HS := Veil.mk (fun hn => hs.out.next HI.out hsp hn)
      have HFD : Veil (s.live = true ∧ s.key = k → FindPost T k w (.returned (.int .i64 (p : Int))) wr) := ⟨fun h => ⟨p, rfl, .inl ⟨p, rfl, s, hsp, h.1, h.2⟩, hBW.trans (hbw.mono hBW.size)⟩⟩
      have HFD1 : Veil (s.live = true ∧ s.key = k → ∀ n, FindPost T k w (.returned (.int .i64 (p : Int))) (wr.drewN n)) := ⟨fun h n => ⟨p, rfl, .inl ⟨p, rfl, s, hsp, h.1, h.2⟩, hBW.trans ((below_drewN hbw n).mono hBW.size)⟩⟩
      rw [show ((p + 1 : Nat) : Int) - 1 = (p : Int) by omega]
      obtain ⟨k0, k1, k2, v0, v1, v2, ff, fl, fn⟩ := hsl
      have i0 : (0 : Int) ≤ (p : Int) := by omega
      have i1 : (p : Int) < (T.sl.length : Int) := by omega
      have i2 : IntKind.i64.wrap ((s.next : Int) - 1) = (s.next : Int) - 1 := IntWalk.i64_in _ (by omega)
      obtain ⟨⟨sk0, sk1, sk2⟩, sv, sf, sl, sn⟩ := s
      obtain ⟨kk0, kk1, kk2⟩ := k
      dsimp only at k0 k1 k2 fl fn hnx2 HS HFD HFD1 y0 y1 y2 i2
      clear hs hsp hsn hlow hT hnx v0 v1 v2 ff x0 x1 x2 hTB HI
      rcases sl with _ | _
      · clear HFD HFD1 k0 k1 k2
        go_wp2
        go_quiet (fail)
        go_wp2
        go_roundw
        case rel => exact ⟨sn, p, rfl, ⟨HS.out (fun h => by cases h.1)⟩, by omega, below_drewN hbw _⟩
        case measure => simp [intOf]; omega
      · by_cases he : ((sk0, sk1, sk2) : Vt) = (kk0, kk1, kk2)
        · have HF := Veil.mk (HFD1.out ⟨rfl, he⟩)
          cases he
          clear HS HFD HFD1
          go_wp2
          go_quiet (fail)
          go_wp2
          go_ret
          exact HF.out _
        · have HN : Veil (¬ (true = true ∧ ((sk0, sk1, sk2) : Vt) = (kk0, kk1, kk2))) := ⟨fun h => he h.2⟩
          have hne := vne he
          simp only at hne
          clear HFD HFD1 he
          rcases hne with hne | ⟨rfl, hne⟩ | ⟨rfl, rfl, hne⟩
          · have q1 : (sk0 == kk0) = false := beq_eq_false_iff_ne.2 (fun e => hne e.symm)
            clear hne
            go_wp2
            go_quiet (fail)
            go_wp2
            go_roundw
            case rel => exact ⟨sn, p, rfl, ⟨HS.out HN.out⟩, by omega, below_drewN hbw _⟩
            case measure => simp [intOf]; omega
          · have q1 : (sk1 == kk1) = false := beq_eq_false_iff_ne.2 (fun e => hne e.symm)
            clear hne
            go_wp2
            go_quiet (fail)
            go_wp2
            go_roundw
            case rel => exact ⟨sn, p, rfl, ⟨HS.out HN.out⟩, by omega, below_drewN hbw _⟩
            case measure => simp [intOf]; omega
          · have q1 : (sk2.toList == kk2.toList) = false := beq_eq_false_iff_ne.2 (fun e => hne e.symm)
            clear hne
            go_wp2
            go_quiet (fail)
            go_wp2
            go_roundw
            case rel => exact ⟨sn, p, rfl, ⟨HS.out HN.out⟩, by omega, below_drewN hbw _⟩
            case measure => simp [intOf]; omega
end Go.Proofs.YtgdkjkfbknbgkaaGreatDoor
