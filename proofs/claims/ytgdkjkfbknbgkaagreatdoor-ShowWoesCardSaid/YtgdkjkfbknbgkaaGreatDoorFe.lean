/- Tables: add. -/
import Derived.Test.YtgdkjkfbknbgkaaGreatDoorFd
namespace Go.Proofs.YtgdkjkfbknbgkaaGreatDoor
open Go.RowKit

abbrev slotV (s : Sl) : Value := .agg #[.int .i64 s.key.1, .int .i64 s.key.2.1, .string s.key.2.2, .int .i64 s.val.1, .int .i64 s.val.2.1, .string s.val.2.2, .int .i64 s.fl, .bool s.live, .int .i64 (s.next : Int)]
theorem Tryz.infoS : (Tryz.prog.info? 169).map (fun i => (i.zero, i.size, i.bytes)) = some (some (.agg #[.int .i64 0, .int .i64 0, .string ⟨#[]⟩, .int .i64 0, .int .i64 0, .string ⟨#[]⟩, .int .i64 0, .bool false, .int .i64 0]), 9, 88) := by kernel_rfl

/-- A table has become another: its blocks are its own or new, and nothing else has changed. -/
def TabPost (B t : Nat) (T' : Tab) (F : Nat → Prop) (w w' : World) : Prop := ∃ vs vb vc, TabAt w' B t T' vs vb vc ∧ Touch F w w' ∧ ∀ k, Foot t T' vs vb vc k → F k ∨ w.heap.size ≤ k
theorem bucketC_add (T : Tab) (s : Sl) : bucketC (addT T s) = (bucketC T).set (bucketOf T.nb s.key) (.int .i64 ((T.hs.length + 1 : Nat) : Int)) := by
  apply List.ext_getElem?
  intro i
  unfold bucketC
  rw [List.getElem?_map]
  show Option.map _ ((List.range T.nb)[i]?) = _
  by_cases hi : i < T.nb
  · rw [List.getElem?_range hi]
    simp only [Option.map_some]
    show some (Value.int .i64 (lastB (T.hs ++ [bucketOf T.nb s.key]) i : Int)) = _
    rw [lastB_snoc]
    by_cases e : bucketOf T.nb s.key = i
    · rw [if_pos e, e, List.getElem?_set_self (by simpa using hi)]
    · rw [if_neg e, List.getElem?_set_ne e, List.getElem?_map, List.getElem?_range hi]; rfl
  · rw [List.getElem?_eq_none (by simp; omega), List.getElem?_eq_none (by simp; omega)]; rfl
theorem slFlat_snoc (l : List Sl) (s : Sl) : slFlat (l ++ [s]) = slFlat l ++ slCells s := by simp [slFlat]
theorem Foot.lt {w : World} {B t : Nat} {T : Tab} {vs vb vc : Value} (h : TabAt w B t T vs vb vc) {k : Nat} (hk : Foot t T vs vb vc k) : B ≤ k ∧ k < w.heap.size := by
  rcases hk with rfl | hk | hk | hk | ⟨c, hc, rfl⟩
  · exact ⟨h.bt, h.box.lt⟩
  · exact own_lt h.os k hk
  · exact own_lt h.ob k hk
  · exact own_lt h.oc k hk
  · obtain ⟨i, hi⟩ := List.mem_iff_getElem?.1 hc
    exact ⟨(h.cs i c hi).1, (h.cs i c hi).2.lt⟩
theorem TabPost.drew {B t : Nat} {T : Tab} {F : Nat → Prop} {w w' : World} (h : TabPost B t T F w w') : TabPost B t T F w w'.drew := by
  obtain ⟨vs, vb, vc, h1, h2, h3⟩ := h
  have ht : Touch (fun _ => False) w' w'.drew := ⟨rfl, rfl, rfl, Nat.le_refl _, fun _ _ _ => rfl⟩
  exact ⟨vs, vb, vc, h1.touch ht (fun _ _ h => h), h2.trans (ht.mono (fun _ h => h.elim)), h3⟩
theorem TabPost.before {B t : Nat} {T : Tab} {F : Nat → Prop} {w w1 w' : World} (h : TabPost B t T F w1 w') (hb : Below w.heap.size w w1) : TabPost B t T F w w' := by
  obtain ⟨vs, vb, vc, h1, h2, h3⟩ := h
  exact ⟨vs, vb, vc, h1, (Touch.of_below hb).trans h2, fun k hk => (h3 k hk).imp id (fun h => Nat.le_trans hb.size h)⟩
theorem add_done {B t g cap' gb cb q : Nat} {T : Tab} {vs vc : Value} {s : Sl} {W2 w3 : World} (h : TabAt W2 B t T vs (.slice (some ⟨gb, 0, none⟩) T.nb cb) vc) (hq : q = bucketOf T.nb s.key) (hl : T.hs.length = T.sl.length)
    (ht : Touch (fun k => vs.ownBlock = some k) W2 w3) (hown : w3.ownsRow B 169 9 (.slice (some ⟨g, 0, none⟩) (T.sl.length + 1) cap') (T.sl.length + 1) (slFlat T.sl ++ slCells { s with next := lastB T.hs (bucketOf T.nb s.key) })) (hblk : vs.ownBlock = some g ∨ W2.heap.size ≤ g) :
    TabPost B t (addT T s) (Foot t T vs (.slice (some ⟨gb, 0, none⟩) T.nb cb) vc) W2 ((w3.setCell ⟨t, 0, none⟩ (.slice (some ⟨g, 0, none⟩) (T.sl.length + 1) cap')).setCell ⟨gb, q, none⟩ (.int .i64 ((T.sl.length : Int) + 1))) := by
  have lt : Lab W2 t _ := h.box.lab
  have ls := own_lab h.os
  have lb := own_lab h.ob
  have lc := own_lab h.oc
  have h3t : Box w3 t _ _ := h.box.touch ht (fun e => (ls t e).ne lt (by decide) rfl)
  have h3b := own_touch h.ob ht (fun k hk e => (ls k e).ne (lb k hk) (by decide) rfl)
  have h3c := own_touch h.oc ht (fun k hk e => (ls k e).ne (lc k hk) (by decide) rfl)
  have h3k : ∀ (i : Nat) c, T.cur[i]? = some c → B ≤ c.1 ∧ Box w3 c.1 199 #[.pointer (some ⟨t, 0, none⟩), .int .i64 (c.2 : Int), .int .i64 (i : Int)] := fun i c hc => ⟨(h.cs i c hc).1, (h.cs i c hc).2.touch ht (fun e => (ls c.1 e).ne (h.cs i c hc).2.lab (by decide) rfl)⟩
  have gt : g ≠ t := (own_lab hown g rfl).ne h3t.lab (by decide)
  have gg : g ≠ gb := (own_lab hown g rfl).ne (own_lab h3b gb rfl) (by decide)
  have gbt : gb ≠ t := (own_lab h3b gb rfl).ne h3t.lab (by decide)
  -- the store of the new row
  obtain ⟨W3, hW3⟩ : ∃ W, W = w3.setCell ⟨t, 0, none⟩ (.slice (some ⟨g, 0, none⟩) (T.sl.length + 1) cap') := ⟨_, rfl⟩
  have tp : Touch (fun k => k = t) w3 W3 := by rw [hW3]; exact Touch.put (S := fun k => k = t) rfl 0 _
  have b3 : Box W3 t 173 #[.slice (some ⟨g, 0, none⟩) (T.sl.length + 1) cap', .slice (some ⟨gb, 0, none⟩) T.nb cb, .int .i64 (T.cnt : Int), vc] := by rw [hW3]; exact h3t.put 0 _
  have s3 := own_touch hown tp (fun k hk e => by cases hk; exact gt e)
  have bb3 := own_touch h3b tp (fun k hk e => by cases hk; exact gbt e)
  have c3 := own_touch h3c tp (fun k hk e => ((own_lab h3c k hk).ne h3t.lab (by decide)) e)
  have k3 : ∀ (i : Nat) c, T.cur[i]? = some c → B ≤ c.1 ∧ Box W3 c.1 199 #[.pointer (some ⟨t, 0, none⟩), .int .i64 (c.2 : Int), .int .i64 (i : Int)] := fun i c hc => ⟨(h3k i c hc).1, (h3k i c hc).2.touch tp (fun e => ((h3k i c hc).2.lab.ne h3t.lab (by decide)) e)⟩
  rw [← hW3]
  -- the store of the bucket
  have tq : Touch (fun k => k = gb) W3 (W3.setCell ⟨gb, q, none⟩ (.int .i64 ((T.sl.length : Int) + 1))) := Touch.put (S := fun k => k = gb) rfl q _
  refine ⟨.slice (some ⟨g, 0, none⟩) (T.sl.length + 1) cap', .slice (some ⟨gb, 0, none⟩) T.nb cb, vc, ⟨b3.touch tq (fun e => gbt e.symm), ?_, ?_, own_touch c3 tq (fun k hk e => ((own_lab c3 k hk).ne (own_lab bb3 gb rfl) (by decide)) e), fun i c hc => ⟨(k3 i c hc).1, (k3 i c hc).2.touch tq (fun e => ((k3 i c hc).2.lab.ne (own_lab bb3 gb rfl) (by decide)) e)⟩, h.bt⟩, ?_, ?_⟩
  · have := own_touch s3 tq (fun k hk e => by cases hk; exact gg e)
    show World.ownsRow _ B _ 9 _ (T.sl ++ [_]).length (slFlat (T.sl ++ [_]))
    rw [slFlat_snoc, List.length_append]
    exact this
  · rw [bucketC_add, ← hq, hl]
    exact own_put bb3 q _
  · exact ((ht.mono (fun k hk => .inr (.inl hk))).trans (tp.mono (fun k hk => .inl hk))).trans (tq.mono (fun k hk => .inr (.inr (.inl (by rw [hk]; rfl)))))
  · rintro k (rfl | hk | hk | hk | hk)
    · exact .inl (.inl rfl)
    · cases hk
      rcases hblk with hb | hb
      · exact .inl (.inr (.inl hb))
      · exact .inr hb
    · exact .inl (.inr (.inr (.inl hk)))
    · exact .inl (.inr (.inr (.inr (.inl hk))))
    · exact .inl (.inr (.inr (.inr (.inr hk))))

set_option maxHeartbeats 4000000 in
set_option maxRecDepth 100000 in
theorem add_any (B t : Nat) (T : Tab) (vs vb vc : Value) (j : Nat) (hj : j ≤ 30) (hnj : T.nb = 2 ^ j) (hlen : T.hs.length = T.sl.length) (hcap : T.sl.length < 100000) (s : Sl) (hk : s.key.2.2.size ≤ 1000) (w : World) (h : TabAt w B t T vs vb vc) :
    Calls Tryz.prog 103 #[.pointer (some ⟨t, 0, none⟩), slotV s] w fun e w' => e = .returned (.tuple #[]) ∧ TabPost B t (addT T s) (Foot t T vs vb vc) w w' := by
  have hnb : 0 < T.nb := by rw [hnj]; exact Nat.two_pow_pos j
  obtain ⟨i0, hi, hz0, hz1, hz2⟩ := info_parts Tryz.infoS
  have hvs := slice_own h.os
  have hvb := slice_own h.ob
  obtain ⟨ab, cb, rfl, hcb, hgb, hmb⟩ := hvb
  obtain ⟨gb, rfl⟩ := hgb hnb
  obtain ⟨sa, cs, rfl, hcs, hgs2, hms⟩ := hvs
  have HB := Veil.mk (fun w hB => bucket_any t T.nb cb (some ⟨gb, 0, none⟩) (.slice sa T.sl.length cs) (.int .i64 (T.cnt : Int)) vc j hj hnj s.key hk w hB)
  have hbl := bucketOf_lt s.key hnb
  have hlb := lastB_le T.hs (bucketOf T.nb s.key)
  obtain ⟨q, hq⟩ : ∃ q, q = bucketOf T.nb s.key := ⟨_, rfl⟩
  have HQ := Veil.mk hq
  rw [← hq] at hbl HB hlb
  obtain ⟨p0, hp0⟩ : ∃ p, p = lastB T.hs q := ⟨_, rfl⟩
  have HP := Veil.mk hp0
  rw [← hp0] at hlb
  obtain ⟨⟨k0, k1, k2⟩, ⟨v0, v1, v2⟩, f, l, n⟩ := s
  have hS : ∀ W', Below (w.alloc (.cells #[.int .i64 k0, .int .i64 k1, .string k2, .int .i64 v0, .int .i64 v1, .string v2, .int .i64 f, .bool l, .int .i64 (n : Int)] 169)).heap.size (w.alloc (.cells #[.int .i64 k0, .int .i64 k1, .string k2, .int .i64 v0, .int .i64 v1, .string v2, .int .i64 f, .bool l, .int .i64 (n : Int)] 169)) W' →
      TabAt W' B t T (.slice sa T.sl.length cs) (.slice (some ⟨gb, 0, none⟩) T.nb cb) vc ∧ Box W' w.heap.size 169 #[.int .i64 k0, .int .i64 k1, .string k2, .int .i64 v0, .int .i64 v1, .string v2, .int .i64 f, .bool l, .int .i64 (n : Int)] ∧ Below w.heap.size w W' := fun W' hb =>
    have hb0 : Below w.heap.size w W' := ((Below.refl _ w).alloc (Nat.le_refl _) _).trans (hb.mono (by simp))
    ⟨h.on hb0, (Box.new w _ _).on hb (by simp), hb0⟩
  have HS := Veil.mk hS
  have HBB := HB.out _ ((h.box).more (.cells #[.int .i64 k0, .int .i64 k1, .string k2, .int .i64 v0, .int .i64 v1, .string v2, .int .i64 f, .bool l, .int .i64 (n : Int)] 169))
  have HH := Veil.mk h
  have hHL := Veil.mk hlen
  have tl : t < w.heap.size := h.box.lt
  have gl : gb < w.heap.size := World.block_lt_of_cell? w _ (h.bcell q hbl)
  clear hq hp0 hS HB h hlen hgs2 hgb hnj
  go_enter Tryz.func103, Tryz.ntmps103
  go_upto_region 2 with (first | (go_at_call 106; ((with_reducible refine HBB.mono ?_); rintro e w1 ⟨rfl, hb1⟩)))
  obtain ⟨hT1, hX1, hB1⟩ := HS.out w1 hb1
  have a1 : w1.cell? ⟨t, 1, none⟩ = some (.slice (some ⟨gb, 0, none⟩) T.nb cb) := hT1.box.at_ 1
  have a2 : w1.cell? ⟨gb, q, none⟩ = some (.int .i64 (p0 : Int)) := by rw [HP.out]; exact hT1.bcell q hbl
  have a3 : w1.cell? ⟨w.heap.size, 8, none⟩ = some (.int .i64 (n : Int)) := hX1.at_ 8
  have a4 := hX1.free 8
  have e2 : (0 : Int) ≤ (q : Int) := by omega
  have e3 : (q : Int) < (T.nb : Int) := by omega
  clear HBB hb1
  go_upto_region 3 with (fail)
  obtain ⟨W2, hW2⟩ : ∃ W, W = w1.setCell ⟨w.heap.size, 8, none⟩ (.int .i64 (p0 : Int)) := ⟨_, rfl⟩
  have hX2 : Box W2 w.heap.size 169 #[.int .i64 k0, .int .i64 k1, .string k2, .int .i64 v0, .int .i64 v1, .string v2, .int .i64 f, .bool l, .int .i64 (p0 : Int)] := by rw [hW2]; exact hX1.put 8 _
  have hB2 : Below w.heap.size w W2 := by rw [hW2]; exact hB1.setCell (p := ⟨w.heap.size, 8, none⟩) (Nat.le_refl _) _
  have hT2 := HH.out.on hB2
  rw [← hW2]
  have d0 : W2.cell? ⟨t, 0, none⟩ = some (.slice sa T.sl.length cs) := hT2.box.at_ 0
  have x0 : W2.cell? ⟨w.heap.size, 0, none⟩ = some (.int .i64 k0) := hX2.at_ 0
  have x1 : W2.cell? ⟨w.heap.size, 1, none⟩ = some (.int .i64 k1) := hX2.at_ 1
  have x2 : W2.cell? ⟨w.heap.size, 2, none⟩ = some (.string k2) := hX2.at_ 2
  have x3 : W2.cell? ⟨w.heap.size, 3, none⟩ = some (.int .i64 v0) := hX2.at_ 3
  have x4 : W2.cell? ⟨w.heap.size, 4, none⟩ = some (.int .i64 v1) := hX2.at_ 4
  have x5 : W2.cell? ⟨w.heap.size, 5, none⟩ = some (.string v2) := hX2.at_ 5
  have x6 : W2.cell? ⟨w.heap.size, 6, none⟩ = some (.int .i64 f) := hX2.at_ 6
  have x7 : W2.cell? ⟨w.heap.size, 7, none⟩ = some (.bool l) := hX2.at_ 7
  have x8 : W2.cell? ⟨w.heap.size, 8, none⟩ = some (.int .i64 (p0 : Int)) := hX2.at_ 8
  have hBs : B ≤ W2.heap.size := by have := hT2.bt; have := hT2.box.lt; omega
  have hap := hT2.box.apart hT2.os (by decide)
  have tl2 : t < W2.heap.size := hT2.box.lt
  have nn := World.new_ne W2 _ d0
  clear hW2 hT1 hX1 hB1 a1 a2 a3 a4 hX2 HS
  go_region_law (refine step_append_lies _ rfl (.tmp 21) (.tmp 23) 170 rfl B 169 i0 (.agg #[.int .i64 0, .int .i64 0, .string ⟨#[]⟩, .int .i64 0, .int .i64 0, .string ⟨#[]⟩, .int .i64 0, .bool false, .int .i64 0]) 9 88 Tryz.underlying170 hi hz0 hz1 hz2 rfl (by decide) (.slice sa T.sl.length cs) T.sl.length (slFlat T.sl) (by simp [Act.eval]) (by first | exact (own_drew hT2.os).alloc _ | exact own_drew (hT2.os.alloc _)) ⟨W2.heap.size, 0, none⟩ 1 1 [.int .i64 k0, .int .i64 k1, .string k2, .int .i64 v0, .int .i64 v1, .string v2, .int .i64 f, .bool l, .int .i64 (p0 : Int)] (by simp [Act.eval]) rfl (by first | exact news_at _ _ rfl _ _ | exact cells_drew (news_at _ _ rfl _ _)) (by simp [Value.oneCell']) (by decide) (by unfold maxLen; omega) (by omega) (by simp; omega) _ rfl ?_; intro g cap' w3 hown' hgrow3 hblk hg3; have hx3 : Box w3 t 173 #[.slice sa T.sl.length cs, .slice (some ⟨gb, 0, none⟩) T.nb cb, .int .i64 (T.cnt : Int), vc] := (by first | exact (Box.more (w := W2.drew) hT2.box _).grown hgrow3 hap | exact (Box.drew (hT2.box.more _)).grown hgrow3 hap); have e12 : w3.cell? ⟨t, 0, none⟩ = some (.slice sa T.sl.length cs) := hx3.at_ 0; have e13 := hx3.free 0)
  all_goals
    have hgT : Touch (fun k => (Value.slice sa T.sl.length cs).ownBlock = some k) W2 w3 := (Touch.of_below (((Below.refl W2.heap.size W2).alloc (Nat.le_refl _) (.cells #[.int .i64 k0, .int .i64 k1, .string k2, .int .i64 v0, .int .i64 v1, .string v2, .int .i64 f, .bool l, .int .i64 (p0 : Int)] 169)).drew)).trans (Touch.of_grown hgrow3 (fun k hk => hk))
    have hD := Veil.mk (add_done (s := ⟨(k0, k1, k2), (v0, v1, v2), f, l, n⟩) hT2 HQ.out hHL.out hgT (by rw [← HQ.out, ← HP.out]; exact hown') (hblk.imp id (fun e => by rw [e]; simp [World.drew])))
    have h3b := own_touch hT2.ob hgT (fun k hk e => (own_lab hT2.os k e).ne (own_lab hT2.ob k hk) (by decide) rfl)
    have gbt : gb ≠ t := (own_lab h3b gb rfl).ne hx3.lab (by decide)
    have f3 := hx3.put 0 (.slice (some ⟨g, 0, none⟩) (T.sl.length + 1) cap')
    have h3b' := own_touch h3b (Touch.put (S := fun k => k = t) (w := w3) rfl 0 (.slice (some ⟨g, 0, none⟩) (T.sl.length + 1) cap')) (fun k hk e => by cases hk; exact gbt e)
    obtain ⟨W3, hW3⟩ : ∃ W, W = w3.setCell ⟨t, 0, none⟩ (.slice (some ⟨g, 0, none⟩) (T.sl.length + 1) cap') := ⟨_, rfl⟩
    rw [← hW3] at hD f3 h3b' ⊢
    have c0 : W3.cell? ⟨t, 0, none⟩ = some (.slice (some ⟨g, 0, none⟩) (T.sl.length + 1) cap') := f3.at_ 0
    have c1 : W3.cell? ⟨t, 1, none⟩ = some (.slice (some ⟨gb, 0, none⟩) T.nb cb) := f3.at_ 1
    have c2 : W3.cell? ⟨gb, q, none⟩ = some (.int .i64 (p0 : Int)) := by
      have := h3b'.cells (g := gb) rfl q (.int .i64 (p0 : Int)) (by unfold bucketC; rw [List.getElem?_map, List.getElem?_range hbl, HP.out]; rfl)
      rwa [add_off] at this
    have c3 : W3.frozen? ⟨gb, q, none⟩ = false := own_free h3b' q
    have hBW := hB2
    clear hW3 f3 h3b h3b' hgT hx3 hown' hgrow3 hblk hg3 e12 e13 d0 x0 x1 x2 x3 x4 x5 x6 x7 x8 hap nn hT2 tl2 hBs
    go_wp2
    go_region
    all_goals
      go_wp2
      go_end0
      exact ⟨rfl, TabPost.before (by first | exact hD.out | exact hD.out.drew) hBW⟩
end Go.Proofs.YtgdkjkfbknbgkaaGreatDoor
