/- Tables: rebuild. -/
import Derived.Test.YtgdkjkfbknbgkaaGreatDoorFg
namespace Go.Proofs.YtgdkjkfbknbgkaaGreatDoor
open Go.RowKit

theorem Touch.comp {F G : Nat → Prop} {w w1 w2 : World} (h : Touch F w w1) (h2 : Touch G w1 w2) (hg : ∀ k, G k → F k ∨ w.heap.size ≤ k) : Touch F w w2 :=
  ⟨h2.os.trans h.os, h2.tape.trans h.tape, h2.output.trans h.output, Nat.le_trans h.size h2.size, fun k hk hn => (h2.block k (Nat.lt_of_lt_of_le hk h.size) (fun e => (hg k e).elim hn (fun h => by omega))).trans (h.block k hk hn)⟩
theorem TabPost.comp {B t : Nat} {T1 T2 : Tab} {F : Nat → Prop} {w w1 w2 : World} (h : TabPost B t T1 F w w1) (h2 : ∀ vs vb vc, TabAt w1 B t T1 vs vb vc → TabPost B t T2 (Foot t T1 vs vb vc) w1 w2) : TabPost B t T2 F w w2 := by
  obtain ⟨vs, vb, vc, a1, a2, a3⟩ := h
  obtain ⟨vs2, vb2, vc2, b1, b2, b3⟩ := h2 vs vb vc a1
  exact ⟨vs2, vb2, vc2, b1, a2.comp b2 a3, fun k hk => (b3 k hk).elim (fun h => a3 k h) (fun h => .inr (Nat.le_trans a2.size h))⟩
def liveL (l : List Sl) : List Sl := l.filter (fun s => s.live)
theorem liveL_snoc (l : List Sl) (s : Sl) : liveL (l ++ [s]) = if s.live then liveL l ++ [s] else liveL l := by
  unfold liveL
  rw [List.filter_append]
  rcases h : s.live with _ | _ <;> simp [List.filter, h]
def reT (T : Tab) (j : Nat) : Tab := buildT (2 ^ j) (T.cur.map (moved T.sl)) T.cnt (liveL T.sl)
theorem pow_room {j c : Nat} (h : 2 ^ j = 2 ∨ 2 ^ j < 4 * c) (hc : c ≤ 200000) : j ≤ 30 := by
  rcases Nat.lt_or_ge 30 j with hj | hj
  · have : 2 ^ 30 ≤ 2 ^ j := Nat.pow_le_pow_right (by omega) (by omega)
    have e : 2 ^ 30 = 1073741824 := by decide
    omega
  · exact hj
/-- A table's own blocks but its two rows of slots and buckets. -/
def FootR (t : Nat) (T : Tab) (vc : Value) (k : Nat) : Prop := k = t ∨ vc.ownBlock = some k ∨ ∃ c ∈ T.cur, c.1 = k
theorem FootR.foot {t : Nat} {T : Tab} {vc : Value} (vs vb : Value) {k : Nat} (h : FootR t (moveT T T.cur.length) vc k) : Foot t T vs vb vc k := by
  refine moveT_foot T t T.cur.length vs vb vc k ?_
  rcases h with h | h | h
  · exact .inl h
  · exact .inr (.inr (.inr (.inl h)))
  · exact .inr (.inr (.inr (.inr h)))
theorem moved_all (T : Tab) : (moveT T T.cur.length).cur = T.cur.map (moved T.sl) := by
  show (T.cur.take T.cur.length).map (moved T.sl) ++ T.cur.drop T.cur.length = _
  rw [List.take_length, List.drop_length, List.append_nil]
theorem TabPost.step {B t : Nat} {T1 T2 : Tab} {F : Nat → Prop} {w w1 w2 : World} {vs vb vc : Value} (_ : TabAt w1 B t T1 vs vb vc) (a2 : Touch F w w1) (a3 : ∀ k, Foot t T1 vs vb vc k → F k ∨ w.heap.size ≤ k) (h2 : TabPost B t T2 (Foot t T1 vs vb vc) w1 w2) : TabPost B t T2 F w w2 := by
  obtain ⟨vs2, vb2, vc2, b1, b2, b3⟩ := h2
  exact ⟨vs2, vb2, vc2, b1, a2.comp b2 a3, fun k hk => (b3 k hk).elim (fun h => a3 k h) (fun h => .inr (Nat.le_trans a2.size h))⟩
theorem SlotAt.touch {w w' : World} {g i : Nat} {s : Sl} {S : Nat → Prop} (h : SlotAt w g i s) (ht : Touch S w w') (hg : g < w.heap.size) (hn : ¬ S g) : SlotAt w' g i s := by
  have key : ∀ o, w'.cell? ⟨g, o, none⟩ = w.cell? ⟨g, o, none⟩ := fun o => World.cell?_of_block (ht.block g hg hn)
  exact ⟨(key _).trans h.k0, (key _).trans h.k1, (key _).trans h.k2, (key _).trans h.v0, (key _).trans h.v1, (key _).trans h.v2, (key _).trans h.f, (key _).trans h.l, (key _).trans h.n⟩
theorem FootR.old {w : World} {B t : Nat} {T : Tab} {vs vb vc : Value} (h : TabAt w B t T vs vb vc) {k : Nat} (hk : FootR t T vc k) : ∀ g, vs.ownBlock = some g → k = g → False := fun g hg e => by
  subst e
  have ls := own_lab h.os k hg
  rcases hk with rfl | hk | ⟨c, hc, e⟩
  · exact ls.ne h.box.lab (by decide) rfl
  · exact ls.ne (own_lab h.oc k hk) (by decide) rfl
  · subst e
    obtain ⟨i, hi⟩ := List.mem_iff_getElem?.1 hc
    exact ls.ne (h.cs i c hi).2.lab (by decide) rfl
theorem buildT_hs (nb : Nat) (cur : List (Nat × Nat)) (cnt : Nat) : ∀ l, (buildT nb cur cnt l).hs.length = (buildT nb cur cnt l).sl.length := by
  refine snoc_ind rfl (fun l x ih => ?_)
  rw [buildT_snoc]
  simp [addT, ih]
def cellsS (n : Nat) : Array Value := madeCells (Value.agg #[.int .i64 0, .int .i64 0, .string ⟨#[]⟩, .int .i64 0, .int .i64 0, .string ⟨#[]⟩, .int .i64 0, .bool false, .int .i64 0]).cells (n * 9)
def cellsI (n : Nat) : Array Value := madeCells (Value.int .i64 0).cells (n * 1)
theorem make_S (n : Nat) (hn : n ≤ 1073741824) (W : World) : (Instr.makeSlice 170 (.int .i64 0) (.int .i64 (n : Int))).run Tryz.prog W = .ok (.slice (some ⟨W.heap.size, 0, none⟩) 0 n) (W.alloc (.cells (cellsS n) 169)) := by
  obtain ⟨iS, hiS, hzS0, hzS1, hzS2⟩ := info_parts Tryz.infoS
  have := run_make (P := Tryz.prog) W 170 169 iS _ Tryz.underlying170 hiS hzS0 .i64 .i64 0 (n : Int) (by omega) (by omega) (by rw [hzS2]; omega) (by omega)
  rw [hzS1] at this
  simpa [cellsS] using this
theorem make_I (n : Nat) (hn : n ≤ 1073741824) (W : World) : (Instr.makeSlice 53 (.int .i64 (n : Int)) (.int .i64 (n : Int))).run Tryz.prog W = .ok (.slice (some ⟨W.heap.size, 0, none⟩) n n) (W.alloc (.cells (cellsI n) 3)) := by
  obtain ⟨iI, hiI, hzI0, hzI1, hzI2⟩ := info_parts Tryz.infoJ
  have := run_make (P := Tryz.prog) W 53 3 iI _ Tryz.underlying53 hiI hzI0 .i64 .i64 (n : Int) (n : Int) (by omega) (by omega) (by rw [hzI2]; omega) (by omega)
  rw [hzI1] at this
  simpa [cellsI] using this
theorem fresh_a {w1 : World} {B t n : Nat} {T : Tab} {vs vb vc : Value} (h : TabAt w1 B t T vs vb vc) (hn : n ≤ 1073741824) :
    TabPost B t { sl := [], hs := [], nb := n, cnt := T.cnt, cur := T.cur } (FootR t T vc) w1 (((((w1.setCell ⟨t, 0, none⟩ (.slice (some ⟨w1.heap.size, 0, none⟩) 0 n)).setCell ⟨t, 1, none⟩ (.slice (some ⟨w1.heap.size + 1, 0, none⟩) n n)).alloc (.cells (cellsS n) 169)).alloc (.cells (cellsI n) 3))).drew := by
  obtain ⟨Wt, hWt⟩ : ∃ W, W = (w1.setCell ⟨t, 0, none⟩ (.slice (some ⟨w1.heap.size, 0, none⟩) 0 n)).setCell ⟨t, 1, none⟩ (.slice (some ⟨w1.heap.size + 1, 0, none⟩) n n) := ⟨_, rfl⟩
  have hz : Wt.heap.size = w1.heap.size := by rw [hWt]; simp [World.setCell]
  have tp : Touch (fun k => k = t) w1 Wt := by rw [hWt]; exact (Touch.put (S := fun k => k = t) rfl 0 _).trans (Touch.put (S := fun k => k = t) rfl 1 _)
  have bx : Box Wt t 173 #[.slice (some ⟨w1.heap.size, 0, none⟩) 0 n, .slice (some ⟨w1.heap.size + 1, 0, none⟩) n n, .int .i64 (T.cnt : Int), vc] := by rw [hWt]; exact (h.box.put 0 _).put 1 _
  have oc := own_touch h.oc tp (fun k hk e => ((own_lab h.oc k hk).ne h.box.lab (by decide)) e)
  have ck : ∀ (i : Nat) c, T.cur[i]? = some c → B ≤ c.1 ∧ Box Wt c.1 199 #[.pointer (some ⟨t, 0, none⟩), .int .i64 (c.2 : Int), .int .i64 (i : Int)] := fun i c hc => ⟨(h.cs i c hc).1, (h.cs i c hc).2.touch tp (fun e => ((h.cs i c hc).2.lab.ne h.box.lab (by decide)) e)⟩
  rw [← hWt]
  have hBw : B ≤ w1.heap.size := by have := h.bt; have := h.box.lt; omega
  have r1 : (Wt.alloc (.cells (cellsS n) 169)).heap[w1.heap.size]? = some (.cells (cellsS n) 169 (0, 0)) := by rw [← hz]; exact Box.new Wt _ _
  have r2 : ((Wt.alloc (.cells (cellsS n) 169)).alloc (.cells (cellsI n) 3)).heap[w1.heap.size]? = some (.cells (cellsS n) 169 (0, 0)) := by rw [Below.heap_alloc _ _ _ (by simp; omega)]; exact r1
  have r3 : ((Wt.alloc (.cells (cellsS n) 169)).alloc (.cells (cellsI n) 3)).heap[w1.heap.size + 1]? = some (.cells (cellsI n) 3 (0, 0)) := by
    have := Box.new (Wt.alloc (.cells (cellsS n) 169)) 3 (cellsI n)
    rw [World.size_alloc, hz] at this
    exact this
  refine TabPost.drew ⟨_, _, vc, ⟨(bx.more _).more _, ⟨rfl, .inr ⟨w1.heap.size, n, cellsS n, rfl, by omega, r2, Nat.zero_le _, by unfold maxLen; omega, size_madeCells _ _, by simp [slFlat]⟩⟩, ⟨by simp [bucketC], .inr ⟨w1.heap.size + 1, n, cellsI n, rfl, by omega, r3, Nat.le_refl _, by unfold maxLen; omega, size_madeCells _ _, ?_⟩⟩, (oc.alloc _).alloc _, fun i c hc => ⟨(ck i c hc).1, ((ck i c hc).2.more _).more _⟩, h.bt⟩, ?_, ?_⟩
  · show (cellsI n).toList.take (n * 1) = (List.range n).map fun b => .int .i64 (lastB [] b : Int)
    rw [show cellsI n = madeCells (Value.int .i64 0).cells (n * 1) from rfl, made_zero]
    apply List.ext_getElem
    · simp
    · intro i h1 h2
      simp [lastB_nil]
  · exact (tp.mono (fun k hk => .inl hk)).trans (Touch.of_below ((((Below.refl _ Wt).alloc (Nat.le_refl _) _).alloc (by simp) _)))
  · rintro k (hk | hk | hk | hk | hk)
    · exact .inl (.inl hk)
    · cases hk; exact .inr (by first | exact Nat.le_refl _ | exact Nat.le_succ _)
    · cases hk; exact .inr (by first | exact Nat.le_refl _ | exact Nat.le_succ _)
    · exact .inl (.inr (.inl hk))
    · exact .inl (.inr (.inr hk))
theorem fresh_b {w1 : World} {B t n : Nat} {T : Tab} {vs vb vc : Value} (h : TabAt w1 B t T vs vb vc) (hn : n ≤ 1073741824) :
    TabPost B t { sl := [], hs := [], nb := n, cnt := T.cnt, cur := T.cur } (FootR t T vc) w1 (((((w1.setCell ⟨t, 0, none⟩ (.slice (some ⟨w1.heap.size + 1, 0, none⟩) 0 n)).setCell ⟨t, 1, none⟩ (.slice (some ⟨w1.heap.size, 0, none⟩) n n)).alloc (.cells (cellsI n) 3)).alloc (.cells (cellsS n) 169))).drew := by
  obtain ⟨Wt, hWt⟩ : ∃ W, W = (w1.setCell ⟨t, 0, none⟩ (.slice (some ⟨w1.heap.size + 1, 0, none⟩) 0 n)).setCell ⟨t, 1, none⟩ (.slice (some ⟨w1.heap.size, 0, none⟩) n n) := ⟨_, rfl⟩
  have hz : Wt.heap.size = w1.heap.size := by rw [hWt]; simp [World.setCell]
  have tp : Touch (fun k => k = t) w1 Wt := by rw [hWt]; exact (Touch.put (S := fun k => k = t) rfl 0 _).trans (Touch.put (S := fun k => k = t) rfl 1 _)
  have bx : Box Wt t 173 #[.slice (some ⟨w1.heap.size + 1, 0, none⟩) 0 n, .slice (some ⟨w1.heap.size, 0, none⟩) n n, .int .i64 (T.cnt : Int), vc] := by rw [hWt]; exact (h.box.put 0 _).put 1 _
  have oc := own_touch h.oc tp (fun k hk e => ((own_lab h.oc k hk).ne h.box.lab (by decide)) e)
  have ck : ∀ (i : Nat) c, T.cur[i]? = some c → B ≤ c.1 ∧ Box Wt c.1 199 #[.pointer (some ⟨t, 0, none⟩), .int .i64 (c.2 : Int), .int .i64 (i : Int)] := fun i c hc => ⟨(h.cs i c hc).1, (h.cs i c hc).2.touch tp (fun e => ((h.cs i c hc).2.lab.ne h.box.lab (by decide)) e)⟩
  rw [← hWt]
  have hBw : B ≤ w1.heap.size := by have := h.bt; have := h.box.lt; omega
  have r1 : (Wt.alloc (.cells (cellsI n) 3)).heap[w1.heap.size]? = some (.cells (cellsI n) 3 (0, 0)) := by rw [← hz]; exact Box.new Wt _ _
  have r2 : ((Wt.alloc (.cells (cellsI n) 3)).alloc (.cells (cellsS n) 169)).heap[w1.heap.size]? = some (.cells (cellsI n) 3 (0, 0)) := by rw [Below.heap_alloc _ _ _ (by simp; omega)]; exact r1
  have r3 : ((Wt.alloc (.cells (cellsI n) 3)).alloc (.cells (cellsS n) 169)).heap[w1.heap.size + 1]? = some (.cells (cellsS n) 169 (0, 0)) := by
    have := Box.new (Wt.alloc (.cells (cellsI n) 3)) 169 (cellsS n)
    rw [World.size_alloc, hz] at this
    exact this
  refine TabPost.drew ⟨_, _, vc, ⟨(bx.more _).more _, ⟨rfl, .inr ⟨w1.heap.size + 1, n, cellsS n, rfl, by omega, r3, Nat.zero_le _, by unfold maxLen; omega, size_madeCells _ _, by simp [slFlat]⟩⟩, ⟨by simp [bucketC], .inr ⟨w1.heap.size, n, cellsI n, rfl, by omega, r2, Nat.le_refl _, by unfold maxLen; omega, size_madeCells _ _, ?_⟩⟩, (oc.alloc _).alloc _, fun i c hc => ⟨(ck i c hc).1, ((ck i c hc).2.more _).more _⟩, h.bt⟩, ?_, ?_⟩
  · show (cellsI n).toList.take (n * 1) = (List.range n).map fun b => .int .i64 (lastB [] b : Int)
    rw [show cellsI n = madeCells (Value.int .i64 0).cells (n * 1) from rfl, made_zero]
    apply List.ext_getElem
    · simp
    · intro i h1 h2
      simp [lastB_nil]
  · exact (tp.mono (fun k hk => .inl hk)).trans (Touch.of_below ((((Below.refl _ Wt).alloc (Nat.le_refl _) _).alloc (by simp) _)))
  · rintro k (hk | hk | hk | hk | hk)
    · exact .inl (.inl hk)
    · cases hk; exact .inr (by first | exact Nat.le_refl _ | exact Nat.le_succ _)
    · cases hk; exact .inr (by first | exact Nat.le_refl _ | exact Nat.le_succ _)
    · exact .inl (.inr (.inl hk))
    · exact .inl (.inr (.inr hk))
def RePost (B t : Nat) (T : Tab) (F : Nat → Prop) (w w' : World) : Prop := ∃ j, 1 ≤ j ∧ j ≤ 30 ∧ 2 * T.cnt ≤ 2 ^ j ∧ TabPost B t (reT T j) F w w'

set_option maxHeartbeats 4000000 in
set_option maxRecDepth 100000 in
theorem rebuild_any (B t : Nat) (T : Tab) (vs vb vc : Value) (hcap : T.sl.length < 100000) (hcnt : T.cnt < 100000) (hcur : T.cur.length < 100000) (hat : ∀ c ∈ T.cur, c.2 ≤ T.sl.length) (hkey : ∀ s ∈ T.sl, s.live = true → s.key.2.2.size ≤ 1000) (w : World) (h : TabAt w B t T vs vb vc) :
    Calls Tryz.prog 89 #[.pointer (some ⟨t, 0, none⟩)] w fun e w' => e = .returned (.tuple #[]) ∧ RePost B t T (Foot t T vs vb vc) w w' := by
  have t2 : w.cell? ⟨t, 2, none⟩ = some (.int .i64 (T.cnt : Int)) := h.box.at_ 2
  have t0 : w.cell? ⟨t, 0, none⟩ = some vs := h.box.at_ 0
  obtain ⟨sa, cs, rfl, hcs, hgs2, hms⟩ := slice_own h.os
  have HM := Veil.mk (move_any B t T (.slice sa T.sl.length cs) vb vc hcap hcur hat w h)
  have HT := Veil.mk h
  obtain ⟨iS, hiS, hzS0, hzS1, hzS2⟩ := info_parts Tryz.infoS
  obtain ⟨iI, hiI, hzI0, hzI1, hzI2⟩ := info_parts Tryz.infoJ
  have HAT := Veil.mk hat
  have HKEY := Veil.mk hkey
  clear h hat hkey
  go_enter Tryz.func89, Tryz.ntmps89
  go_wp2
  go_loop [2] (fun sz => ∃ j n : Nat, 1 ≤ j ∧ sz = .int .i64 (n : Int) ∧ Veil (n = 2 ^ j) ∧ 2 ≤ n ∧ (n = 2 ∨ n < 4 * T.cnt)) (fun sz => 2 * T.cnt - (intOf sz).toNat)
  case atStart => exact ⟨1, 2, Nat.le_refl _, rfl, ⟨rfl⟩, Nat.le_refl _, .inl rfl⟩
  case round =>
    obtain ⟨j, n, hj, rfl, HN, hn2, hn4⟩ := hrel
    have i1 : IntKind.i64.wrap (2 * (T.cnt : Int)) = 2 * (T.cnt : Int) := IntWalk.i64_in _ (by omega)
    have i2 : IntKind.i64.wrap ((n : Int) * 2) = (n : Int) * 2 := IntWalk.i64_in _ (by omega)
    by_cases hp : n < 2 * T.cnt
    · have q1 : (n : Int) < 2 * (T.cnt : Int) := by omega
      go_wp2
      go_round
      case rel => exact ⟨j + 1, n * 2, by omega, by simp, ⟨by rw [HN.out, Nat.pow_succ]⟩, by omega, .inr (by omega)⟩
      case measure => simp [intOf]; omega
    · have q1 : ¬ (n : Int) < 2 * (T.cnt : Int) := by omega
      have hj30 : j ≤ 30 := pow_room (c := T.cnt) (by rw [← HN.out]; exact hn4) (by omega)
      have hn30 : n ≤ 1073741824 := by rw [HN.out]; exact Nat.le_trans (Nat.pow_le_pow_right (by omega) hj30) (by decide)
      go_upto_region 5 with (first | (go_at_call 107; ((with_reducible refine HM.out.mono ?_); rintro e w1 ⟨rfl, hp1⟩)))
      obtain ⟨hT1, htc1⟩ := hp1
      have c0 := hT1.box.at_ 0
      have c1 := hT1.box.at_ 1
      have f0 := hT1.box.free 0
      have f1 := hT1.box.free 1
      have mkS : ∀ W, (Instr.makeSlice 170 (.int .i64 0) (.int .i64 (n : Int))).run Tryz.prog W = .ok (.slice (some ⟨W.heap.size, 0, none⟩) 0 n) (W.alloc (.cells (cellsS n) 169)) := fun W => make_S n (by omega) W
      have mkI : ∀ W, (Instr.makeSlice 53 (.int .i64 (n : Int)) (.int .i64 (n : Int))).run Tryz.prog W = .ok (.slice (some ⟨W.heap.size, 0, none⟩) n n) (W.alloc (.cells (cellsI n) 3)) := fun W => make_I n (by omega) W
      have tl1 : t < w1.heap.size := hT1.box.lt
      have nn := World.new_ne w1 _ c0
      have HT1 := Veil.mk hT1
      clear hT1
      go_region
      · have hF := fresh_a (n := n) HT1.out (by omega)
        obtain ⟨W2, hW2⟩ : ∃ W : World, W = (((((w1.setCell ⟨t, 0, none⟩ (.slice (some ⟨w1.heap.size, 0, none⟩) 0 n)).setCell ⟨t, 1, none⟩ (.slice (some ⟨w1.heap.size + 1, 0, none⟩) n n)).alloc (.cells (cellsS n) 169)).alloc (.cells (cellsI n) 3))).drew := ⟨_, rfl⟩
        rw [← hW2] at hF ⊢
        clear hW2 mkS mkI c0 c1 f0 f1 tl1 nn t0 t2 HT HM
        have HF := Veil.mk hF
        clear hF
        go_wp2
        go_loopw [33] (fun i wr => ∃ k : Nat, k ≤ T.sl.length ∧ i = .int .i64 (k : Int) ∧ TabPost B t (buildT n (T.cur.map (moved T.sl)) T.cnt (liveL (T.sl.take k))) (FootR t (moveT T T.cur.length) vc) w1 wr) (fun i _ => T.sl.length - (intOf i).toNat)
        case atStart => exact ⟨0, Nat.zero_le _, rfl, by rw [← moved_all]; exact HF.out⟩
        case round =>
          obtain ⟨k, hk, rfl, hrel⟩ := hrel
          by_cases hp : k < T.sl.length
          · obtain ⟨gs, rfl⟩ := hgs2 (by omega)
            have hsp : T.sl[k]? = some T.sl[k] := List.getElem?_eq_getElem hp
            have hmem : T.sl[k] ∈ T.sl := List.getElem_mem hp
            have htk : T.sl.take (k + 1) = T.sl.take k ++ [T.sl[k]] := by rw [List.take_add_one, hsp]; rfl
            generalize T.sl[k] = s at hsp hmem htk
            obtain ⟨vs', vb', vc', hTk, tk, sk⟩ := hrel
            have hsl : SlotAt wr gs k s := SlotAt.touch (TabAt.slot HT1.out k s hsp) tk (own_lt HT1.out.os gs rfl).2 (fun e => FootR.old HT1.out e gs rfl rfl)
            obtain ⟨k0, k1, k2, v0, v1, v2, ff, fl, fn⟩ := hsl
            obtain ⟨e1, e2, e3, _⟩ := buildT_same n (T.cur.map (moved T.sl)) T.cnt (liveL (T.sl.take k))
            have e4 := buildT_len n (T.cur.map (moved T.sl)) T.cnt (liveL (T.sl.take k))
            have e5 := buildT_hs n (T.cur.map (moved T.sl)) T.cnt (liveL (T.sl.take k))
            have e6 : (liveL (T.sl.take k)).length ≤ k := Nat.le_trans (List.length_filter_le _ _) (List.length_take_le _ _)
            have hfin : s.live = true → addT (buildT n (T.cur.map (moved T.sl)) T.cnt (liveL (T.sl.take k))) s = buildT n (T.cur.map (moved T.sl)) T.cnt (liveL (T.sl.take (k + 1))) := fun h => by rw [htk, liveL_snoc, if_pos h, buildT_snoc]
            have hfin0 : s.live = false → buildT n (T.cur.map (moved T.sl)) T.cnt (liveL (T.sl.take (k + 1))) = buildT n (T.cur.map (moved T.sl)) T.cnt (liveL (T.sl.take k)) := fun h => by rw [htk, liveL_snoc, if_neg (by rw [h]; simp)]
            have HFI := Veil.mk hfin
            have HFI0 := Veil.mk hfin0
            have hks := HKEY.out s hmem
            have hadd := fun (hl : s.live = true) W (hb : Below wr.heap.size wr W) => add_any B t (buildT n (T.cur.map (moved T.sl)) T.cnt (liveL (T.sl.take k))) vs' vb' vc' j hj30 (by rw [e1]; exact HN.out) e5 (by rw [e4]; omega) s (hks hl) W (hTk.on hb)
            have HADD := Veil.mk hadd
            have HTK := Veil.mk hTk
            have HTT := Veil.mk tk
            have HSK := Veil.mk sk
            have i0 : (0 : Int) ≤ (k : Int) := by omega
            have i1 : (k : Int) < (T.sl.length : Int) := by omega
            have i2 : IntKind.i64.wrap ((k : Int) + 1) = (k : Int) + 1 := IntWalk.i64_in _ (by omega)
            clear hsp hmem htk hTk tk sk e1 e2 e3 e4 e5 e6 hfin hfin0 hks hadd
            obtain ⟨⟨sk0, sk1, sk2⟩, ⟨sv0, sv1, sv2⟩, sf, sl, sn⟩ := s
            dsimp only at k0 k1 k2 v0 v1 v2 ff fl fn
            have hbb : Below wr.heap.size wr (wr.alloc (.cells #[.int .i64 sk0, .int .i64 sk1, .string sk2, .int .i64 sv0, .int .i64 sv1, .string sv2, .int .i64 sf, .bool sl, .int .i64 (sn : Int)] 169)) := (Below.refl _ _).alloc (Nat.le_refl _) _
            have HBB := Veil.mk hbb
            clear hbb
            rcases sl with _ | _
            · have HR : Veil (TabPost B t (buildT n (T.cur.map (moved T.sl)) T.cnt (liveL (T.sl.take (k + 1)))) (FootR t (moveT T T.cur.length) vc) w1 (wr.alloc (.cells #[.int .i64 sk0, .int .i64 sk1, .string sk2, .int .i64 sv0, .int .i64 sv1, .string sv2, .int .i64 sf, .bool false, .int .i64 (sn : Int)] 169))) := ⟨by rw [HFI0.out rfl]; exact ⟨vs', vb', vc', HTK.out.on HBB.out, HTT.out.trans (Touch.of_below HBB.out), HSK.out⟩⟩
              go_wp2
              exact ⟨⟨k + 1, by omega, by go_num, HR.out⟩, by simp [intOf]; omega⟩
            · have HC := HADD.out rfl _ HBB.out
              go_wp2_with (first | (go_at_call 103; ((with_reducible refine HC.mono ?_); rintro e w3 ⟨rfl, hpost⟩)))
              rw [HFI.out (by trivial)] at hpost
              exact ⟨⟨k + 1, by omega, by go_num, TabPost.step HTK.out HTT.out HSK.out (TabPost.before hpost HBB.out)⟩, by simp [intOf]; omega⟩
          · obtain rfl : k = T.sl.length := by omega
            have hlt' : ¬ (T.sl.length : Int) < (T.sl.length : Int) := by omega
            have HR : Veil (RePost B t T (Foot t T (.slice sa T.sl.length cs) vb vc) w wr) := ⟨by
              rw [List.take_length] at hrel
              obtain ⟨vs', vb', vc', hTk, tk, sk⟩ := hrel
              have hre : buildT n (T.cur.map (moved T.sl)) T.cnt (liveL T.sl) = reT T j := by unfold reT; rw [HN.out]
              rw [hre] at hTk sk
              refine ⟨j, hj, hj30, by rw [← HN.out]; omega, vs', vb', vc', hTk, htc1.comp tk (fun k hk => .inl (FootR.foot _ _ hk)), fun k hk => (sk k hk).imp (FootR.foot _ _) (fun h => Nat.le_trans htc1.size h)⟩⟩
            go_wp2
            go_end0
            exact ⟨rfl, HR.out⟩
      · have hF := fresh_b (n := n) HT1.out (by omega)
        obtain ⟨W2, hW2⟩ : ∃ W : World, W = (((((w1.setCell ⟨t, 0, none⟩ (.slice (some ⟨w1.heap.size + 1, 0, none⟩) 0 n)).setCell ⟨t, 1, none⟩ (.slice (some ⟨w1.heap.size, 0, none⟩) n n)).alloc (.cells (cellsI n) 3)).alloc (.cells (cellsS n) 169))).drew := ⟨_, rfl⟩
        rw [← hW2] at hF ⊢
        clear hW2 mkS mkI c0 c1 f0 f1 tl1 nn t0 t2 HT HM
        have HF := Veil.mk hF
        clear hF
        go_wp2
        go_loopw [33] (fun i wr => ∃ k : Nat, k ≤ T.sl.length ∧ i = .int .i64 (k : Int) ∧ TabPost B t (buildT n (T.cur.map (moved T.sl)) T.cnt (liveL (T.sl.take k))) (FootR t (moveT T T.cur.length) vc) w1 wr) (fun i _ => T.sl.length - (intOf i).toNat)
        case atStart => exact ⟨0, Nat.zero_le _, rfl, by rw [← moved_all]; exact HF.out⟩
        case round =>
          obtain ⟨k, hk, rfl, hrel⟩ := hrel
          by_cases hp : k < T.sl.length
          · obtain ⟨gs, rfl⟩ := hgs2 (by omega)
            have hsp : T.sl[k]? = some T.sl[k] := List.getElem?_eq_getElem hp
            have hmem : T.sl[k] ∈ T.sl := List.getElem_mem hp
            have htk : T.sl.take (k + 1) = T.sl.take k ++ [T.sl[k]] := by rw [List.take_add_one, hsp]; rfl
            generalize T.sl[k] = s at hsp hmem htk
            obtain ⟨vs', vb', vc', hTk, tk, sk⟩ := hrel
            have hsl : SlotAt wr gs k s := SlotAt.touch (TabAt.slot HT1.out k s hsp) tk (own_lt HT1.out.os gs rfl).2 (fun e => FootR.old HT1.out e gs rfl rfl)
            obtain ⟨k0, k1, k2, v0, v1, v2, ff, fl, fn⟩ := hsl
            obtain ⟨e1, e2, e3, _⟩ := buildT_same n (T.cur.map (moved T.sl)) T.cnt (liveL (T.sl.take k))
            have e4 := buildT_len n (T.cur.map (moved T.sl)) T.cnt (liveL (T.sl.take k))
            have e5 := buildT_hs n (T.cur.map (moved T.sl)) T.cnt (liveL (T.sl.take k))
            have e6 : (liveL (T.sl.take k)).length ≤ k := Nat.le_trans (List.length_filter_le _ _) (List.length_take_le _ _)
            have hfin : s.live = true → addT (buildT n (T.cur.map (moved T.sl)) T.cnt (liveL (T.sl.take k))) s = buildT n (T.cur.map (moved T.sl)) T.cnt (liveL (T.sl.take (k + 1))) := fun h => by rw [htk, liveL_snoc, if_pos h, buildT_snoc]
            have hfin0 : s.live = false → buildT n (T.cur.map (moved T.sl)) T.cnt (liveL (T.sl.take (k + 1))) = buildT n (T.cur.map (moved T.sl)) T.cnt (liveL (T.sl.take k)) := fun h => by rw [htk, liveL_snoc, if_neg (by rw [h]; simp)]
            have HFI := Veil.mk hfin
            have HFI0 := Veil.mk hfin0
            have hks := HKEY.out s hmem
            have hadd := fun (hl : s.live = true) W (hb : Below wr.heap.size wr W) => add_any B t (buildT n (T.cur.map (moved T.sl)) T.cnt (liveL (T.sl.take k))) vs' vb' vc' j hj30 (by rw [e1]; exact HN.out) e5 (by rw [e4]; omega) s (hks hl) W (hTk.on hb)
            have HADD := Veil.mk hadd
            have HTK := Veil.mk hTk
            have HTT := Veil.mk tk
            have HSK := Veil.mk sk
            have i0 : (0 : Int) ≤ (k : Int) := by omega
            have i1 : (k : Int) < (T.sl.length : Int) := by omega
            have i2 : IntKind.i64.wrap ((k : Int) + 1) = (k : Int) + 1 := IntWalk.i64_in _ (by omega)
            clear hsp hmem htk hTk tk sk e1 e2 e3 e4 e5 e6 hfin hfin0 hks hadd
            obtain ⟨⟨sk0, sk1, sk2⟩, ⟨sv0, sv1, sv2⟩, sf, sl, sn⟩ := s
            dsimp only at k0 k1 k2 v0 v1 v2 ff fl fn
            have hbb : Below wr.heap.size wr (wr.alloc (.cells #[.int .i64 sk0, .int .i64 sk1, .string sk2, .int .i64 sv0, .int .i64 sv1, .string sv2, .int .i64 sf, .bool sl, .int .i64 (sn : Int)] 169)) := (Below.refl _ _).alloc (Nat.le_refl _) _
            have HBB := Veil.mk hbb
            clear hbb
            rcases sl with _ | _
            · have HR : Veil (TabPost B t (buildT n (T.cur.map (moved T.sl)) T.cnt (liveL (T.sl.take (k + 1)))) (FootR t (moveT T T.cur.length) vc) w1 (wr.alloc (.cells #[.int .i64 sk0, .int .i64 sk1, .string sk2, .int .i64 sv0, .int .i64 sv1, .string sv2, .int .i64 sf, .bool false, .int .i64 (sn : Int)] 169))) := ⟨by rw [HFI0.out rfl]; exact ⟨vs', vb', vc', HTK.out.on HBB.out, HTT.out.trans (Touch.of_below HBB.out), HSK.out⟩⟩
              go_wp2
              exact ⟨⟨k + 1, by omega, by go_num, HR.out⟩, by simp [intOf]; omega⟩
            · have HC := HADD.out rfl _ HBB.out
              go_wp2_with (first | (go_at_call 103; ((with_reducible refine HC.mono ?_); rintro e w3 ⟨rfl, hpost⟩)))
              rw [HFI.out (by trivial)] at hpost
              exact ⟨⟨k + 1, by omega, by go_num, TabPost.step HTK.out HTT.out HSK.out (TabPost.before hpost HBB.out)⟩, by simp [intOf]; omega⟩
          · obtain rfl : k = T.sl.length := by omega
            have hlt' : ¬ (T.sl.length : Int) < (T.sl.length : Int) := by omega
            have HR : Veil (RePost B t T (Foot t T (.slice sa T.sl.length cs) vb vc) w wr) := ⟨by
              rw [List.take_length] at hrel
              obtain ⟨vs', vb', vc', hTk, tk, sk⟩ := hrel
              have hre : buildT n (T.cur.map (moved T.sl)) T.cnt (liveL T.sl) = reT T j := by unfold reT; rw [HN.out]
              rw [hre] at hTk sk
              refine ⟨j, hj, hj30, by rw [← HN.out]; omega, vs', vb', vc', hTk, htc1.comp tk (fun k hk => .inl (FootR.foot _ _ hk)), fun k hk => (sk k hk).imp (FootR.foot _ _) (fun h => Nat.le_trans htc1.size h)⟩⟩
            go_wp2
            go_end0
            exact ⟨rfl, HR.out⟩
end Go.Proofs.YtgdkjkfbknbgkaaGreatDoor
