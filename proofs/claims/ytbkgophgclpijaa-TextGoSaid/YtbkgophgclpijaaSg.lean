/- TextSigns: the law's walk. -/
import Derived.Test.YtbkgophgclpijaaSf
namespace Go.Proofs.Ytbkgophgclpijaa
open Go Go.RowKit
attribute [local go_sem] Oper.semAt_some

theorem KeepsOthers.of_below {W W' : World} (h : Below W.heap.size W W') : KeepsOthers W W' :=
  ⟨h.size, fun k _ hk _ => (h.block k (Array.getElem?_eq_some_iff.1 hk).1).trans hk⟩
theorem cell_putObj (W : World) (l b : Nat) (o : Obj) (h : b ≠ l) : (W.putObj l o).cell? ⟨b, 0, none⟩ = W.cell? ⟨b, 0, none⟩ :=
  World.cell?_of_block (World.putObj_heap_other h)
theorem cell_apart (W : World) (b b' o o' : Nat) (v : Value) (h : b ≠ b') : (W.setCell ⟨b, o, none⟩ v).cell? ⟨b', o', none⟩ = W.cell? ⟨b', o', none⟩ :=
  by rw [World.cell?_setCell_other]; intro e; exact h (congrArg Addr.block e)
theorem cell_new_l (W : World) (v : Value) (t : TypeId) : (W.alloc (.cells #[v] t)).cell? ⟨W.heap.size, 0, none⟩ = some v ∧ (W.alloc (.cells #[v] t)).frozen? ⟨W.heap.size, 0, none⟩ = false := by
  constructor <;> go_simp
theorem cell_alloc_l {W : World} {a : Addr} {v : Value} (o : Obj) (h : W.cell? a = some v) : (W.alloc o).cell? a = some v := cell_kept h (World.grownBy_alloc W o none) (fun r e => by cases e)
theorem frozen_alloc_l {W : World} {a : Addr} {v : Value} (o : Obj) (h : W.cell? a = some v) (hf : W.frozen? a = false) : (W.alloc o).frozen? a = false := (frozen_kept h (World.grownBy_alloc W o none) (fun r e => by cases e)).trans hf
/-- What holds at the head of the law's loop after k rounds: R the result's box, WB the box of want, WB + 1 that of k. -/
structure LoopI (w : World) (lo R WB : Nat) (v : Value) (S : List (List Nat)) (k : Nat) (W : World) : Prop where
  rc : W.cell? ⟨R, 0, none⟩ = some (.bool false)
  rf : W.frozen? ⟨R, 0, none⟩ = false
  wc : W.cell? ⟨WB, 0, none⟩ = some v
  kc : W.cell? ⟨WB + 1, 0, none⟩ = some (.int .i64 (k : Int))
  kf : W.frozen? ⟨WB + 1, 0, none⟩ = false
  rows : RowsAt lo WB W v S
  sz : WB + 1 + 1 < W.heap.size
  bel : Below w.heap.size w W
theorem LoopI.own {w : World} {lo R WB B : Nat} {v : Value} {S : List (List Nat)} (hB : w.heap.size ≤ B) : OwnFrom B (fun (pre : List (List Nat)) W => LoopI w lo R WB v S pre.length W) := fun s A C row hs hg hr =>
  have hr' := fun r e => (hr r e).2
  ⟨cell_kept hs.rc hg hr', (frozen_kept hs.rc hg hr').trans hs.rf, cell_kept hs.wc hg hr', cell_kept hs.kc hg hr', (frozen_kept hs.kc hg hr').trans hs.kf, hs.rows.grows hg hr', by have := hs.sz; have := hg.size; omega,
    hs.bel.grown hg hs.bel.size (fun k e => Nat.le_trans hB (hr k e).1)⟩
theorem LoopI.on {w : World} {lo R WB k : Nat} {v : Value} {S : List (List Nat)} {W W' : World} (h : LoopI w lo R WB v S k W) (hb : Below W.heap.size W W') (hR : R ≤ WB) : LoopI w lo R WB v S k W' := by
  have hz := h.sz
  obtain ⟨hc, hf⟩ := old_cells hb
  exact ⟨(hc _ _ (by omega)).trans h.rc, (hf _ _ (by omega)).trans h.rf, (hc _ _ (by omega)).trans h.wc, (hc _ _ (by omega)).trans h.kc, (hf _ _ (by omega)).trans h.kf, h.rows.kept (fun b o _ h2 => hc b o (by omega)), by have := hb.size; omega, h.bel.trans (hb.mono h.bel.size)⟩
theorem LoopI.next {w : World} {lo R WB k : Nat} {v : Value} {S : List (List Nat)} {W : World} (h : LoopI w lo R WB v S k W) (hR : R < WB) (hw : w.heap.size ≤ WB) (k' : Nat) (x : Value) (hx : x = .int .i64 (k' : Int)) : LoopI w lo R WB v S k' (W.setCell ⟨WB + 1, 0, none⟩ x) := by
  subst hx
  refine ⟨?_, ?_, ?_, World.cell?_setCell_same' _ _ _ (by rw [h.kc]; rfl), by rw [World.frozen?_setCell]; exact h.kf, ?_, by simp; exact h.sz, h.bel.setCell (by show _ ≤ WB + 1; omega) _⟩
  · rw [cell_apart _ _ _ _ _ _ (by omega)]; exact h.rc
  · rw [World.frozen?_setCell]; exact h.rf
  · rw [cell_apart _ _ _ _ _ _ (by omega)]; exact h.wc
  · exact h.rows.kept (fun b o _ h2 => cell_apart _ _ _ _ _ _ (by omega))
def LoopX (S : List (List Nat)) (c : Code) (pre : List (List Nat)) : Prop := c = .ret ∧ ∃ p x us, pre = p ++ [x] ∧ S[p.length]? = some us ∧ strU x ≠ strU us
theorem LoopX.none {S : List (List Nat)} {c : Code} {pre : List (List Nat)} (h : LoopX S c pre) (hp : pre <+: S) : False := by
  obtain ⟨_, p, x, us, rfl, hs, hne⟩ := h
  obtain ⟨t, rfl⟩ := hp
  simp at hs
  exact hne (by rw [hs])
def ListPost2 (B : Nat) (w : World) (l : List Nat) (e : Ending) (w' : World) : Prop := ∃ g cap, e = .returned (.slice (some ⟨g, 0, none⟩) l.length cap) ∧ Nums .i64 w' (some ⟨g, 0, none⟩) l.length l ∧ (l.length : Int) ≤ (cap : Int) ∧ Below B w w'
theorem list_at2 (x : ByteArray) (l : List Nat) (hs : x.size ≤ 1000000) (hx : Veil (unitsS x = l)) (hl : 0 < l.length) (w : World) :
    Calls Try.prog 8 #[.string x] w (ListPost2 w.heap.size w l) :=
  (list_any x hs w).mono fun e w' ⟨v, he, hown, hb⟩ => by
    rw [hx.out] at hown
    obtain ⟨a, cap', e', hn⟩ := own_nums hown
    rcases hown.2 with ⟨rfl, h0⟩ | ⟨g, cap, cur, rfl, hB, hg, hc, -, -, -⟩
    · omega
    · cases e'
      exact ⟨_, _, he, hn, by omega, hb⟩
theorem nums_from {w : World} {g n : Nat} {l : List Nat} (h : Nums .i64 w (some ⟨g, 0, none⟩) n l) (f : Nat) (hf : f ≤ n) : Nums .i64 w (some ⟨g, f, none⟩) (n - f) (l.drop f) := by
  have hl := h.1
  refine ⟨by rw [List.length_drop]; omega, fun h0 => ?_⟩
  obtain ⟨b, o, e, hlt, hc⟩ := h.2 (by omega)
  cases e
  refine ⟨g, f, rfl, hlt, fun i hi => ?_⟩
  have := hc (f + i) (by omega)
  rw [show f + i = 0 + (f + i) by omega, this, List.getElem?_drop]
theorem strU_ne {x y : ByteArray} (h : x ≠ y) : (x.toList == y.toList) = false := by
  rw [← beq_toListBytes]
  rw [Bool.eq_false_iff]
  intro e
  have e' : (x.data == y.data) = true := e
  exact h (ByteArray.ext (by simpa using e'))
def FirstPost (us : List Nat) (B : Nat) (w : World) (e : Ending) (w' : World) : Prop := ∃ b g len cap, e = .returned (.slice (some ⟨b, 0, none⟩) len cap) ∧ (0 : Int) < (len : Int) ∧ w'.cell? ⟨b, 0, none⟩ = some (.slice (some ⟨g, 0, none⟩) us.length us.length) ∧ (∀ i, i < us.length → w'.cell? ⟨g, i, none⟩ = some (.int .i64 ((us[i]?.getD 0 : Nat) : Int))) ∧ Below B w w'
theorem refSigns_first (a : Option Addr) (n cap : Nat) (l us : List Nat) (T : List (List Nat)) (hn : n ≤ 1000000) (hlt : ∀ u ∈ l, u < 65536) (hS : Veil (signs l = us :: T)) (w : World) (h : Nums .i64 w a n l) :
    Calls Try.prog 7 #[.slice a n cap] w (FirstPost us w.heap.size w) :=
  (refSigns_at a n cap l (us :: T) hn hlt hS w h).mono fun e w' ⟨va, vc, he, hR, hb⟩ => by
    obtain ⟨a, cap, hv, hR⟩ := hR
    obtain ⟨b, g, h1, _, _, _, _, h6, h7⟩ := hR 0 us rfl
    cases hv
    subst h1
    exact ⟨b, g, _, _, he, by simp, h6, h7, hb⟩
theorem fin_ret {n : Nat} {w W : World} {D : Nat} {t : Array Value} (h4 : t[4]? = some (.pointer (some ⟨w.heap.size, 0, none⟩))) (hr : W.cell? ⟨w.heap.size, 0, none⟩ = some (.bool false)) (hK : W.heap[D]? = some (.deferred (some []))) (hD : w.heap.size ≤ D) (hB : Below w.heap.size w W) :
    bodyPostM Fence.wide n Try.prog Try.f3 (fun e w' => e = .returned (.bool true) ∧ Below w.heap.size w w') Exit.ret { tmps := t, defers := [{ target := .collected D, args := #[] }] } (W.setCell ⟨w.heap.size, 0, none⟩ (.bool true)) := by
  have hK' := (KeepsOthers.setCell W ⟨w.heap.size, 0, none⟩ (.bool true)).same D _ hK rfl
  refine ⟨by simp, .inl ⟨_, _, rfl, run_takeDeferred hK', ?_⟩⟩
  have hc5 := cell_kept (World.cell?_setCell_same' W ⟨w.heap.size, 0, none⟩ (.bool true) (by rw [hr]; rfl)) (grownBy_putObj' _ D (.deferred none)) (fun r e => by cases e; exact ⟨_, hK', rfl⟩)
  refine ⟨.bool true, ?_, rfl, (hB.setCell (p := ⟨w.heap.size, 0, none⟩) (Nat.le_refl _) _).trans (belowK_b (w := w) (Nat.le_refl _) _ D _ _ hD hK' rfl rfl)⟩
  simp [results, Try.f3, go_sem, hc5, h4]
theorem pair_next (l : List Nat) (j : Nat) (h : (isHi (l[j]?.getD 0) && isLo (l[j + 1]?.getD 0)) = true) : j + 1 < l.length := by
  by_cases hj : j + 1 < l.length
  · exact hj
  · rw [List.getElem?_eq_none (l := l) (i := j + 1) (by omega)] at h
    simp [isLo_zero] at h
theorem strU_dec (x y : ByteArray) : x = y ∨ x ≠ y := by by_cases h : x = y; exact .inl h; exact .inr h
theorem signs_sub : ∀ (l : List Nat) (us : List Nat), us ∈ signs l → us.length ≤ 2 ∧ ∀ u ∈ us, u ∈ l
  | [], us, h => by simp [signs] at h
  | [u], us, h => by simp [signs] at h; subst h; simp
  | u :: v :: r, us, h => by
    unfold signs at h
    split at h
    · rcases List.mem_cons.1 h with rfl | h
      · exact ⟨by simp, fun z hz => by simp at hz ⊢; omega⟩
      · obtain ⟨h1, h2⟩ := signs_sub r us h
        exact ⟨h1, fun z hz => List.mem_cons_of_mem _ (List.mem_cons_of_mem _ (h2 z hz))⟩
    · rcases List.mem_cons.1 h with rfl | h
      · exact ⟨by simp, fun z hz => by simp at hz ⊢; omega⟩
      · obtain ⟨h1, h2⟩ := signs_sub (v :: r) us h
        exact ⟨h1, fun z hz => List.mem_cons_of_mem _ (h2 z hz)⟩
theorem signs_bound (l : List Nat) (hl : ∀ u ∈ l, u < 65536) (us : List Nat) (h : us ∈ signs l) : ∀ u ∈ us, u < 65536 := fun u hu => hl u ((signs_sub l us h).2 u hu)
theorem signs_short (l : List Nat) (us : List Nat) (h : us ∈ signs l) : us.length ≤ 2 := (signs_sub l us h).1
theorem signs_count : ∀ (l : List Nat), (signs l).length ≤ l.length
  | [] => by simp [signs]
  | [u] => by simp [signs]
  | u :: v :: r => by
    unfold signs
    split
    · have := signs_count r; simp; omega
    · have := signs_count (v :: r); simp at this ⊢; omega
theorem LoopI.parts {w : World} {lo R WB k : Nat} {v : Value} {S : List (List Nat)} {W : World} (h : LoopI w lo R WB v S k W) : W.cell? ⟨R, 0, none⟩ = some (.bool false) ∧ W.frozen? ⟨R, 0, none⟩ = false ∧ W.cell? ⟨WB, 0, none⟩ = some v ∧ W.cell? ⟨WB + 1, 0, none⟩ = some (.int .i64 (k : Int)) ∧ W.frozen? ⟨WB + 1, 0, none⟩ = false ∧ LoopI w lo R WB v S k W := ⟨h.rc, h.rf, h.wc, h.kc, h.kf, h⟩

set_option maxRecDepth 100000 in
set_option maxHeartbeats 2000000 in
theorem signs_out1 (n : Nat) (hn : 4 ≤ n) (a : Option Addr) (ca : Nat) (l : List Nat) (I : Int) (hi : I < 0) (hlen : l.length ≤ 3000) (hl : ∀ u ∈ l, u < 65536) (w : World) (hN : Nums .u16 w a l.length l) :
    CallsIn Fence.wide n Try.prog 3 #[.slice a l.length ca, .int .i64 I] w fun e w' => e = .returned (.bool true) ∧ Below w.heap.size w w' := by
  have g1 : ¬ (3000 : Int) < (l.length : Int) := by omega
  have h1 : 1 ≤ n := by omega
  obtain ⟨x, hx⟩ : ∃ x, x = strU l := ⟨_, rfl⟩
  have HX := Veil.mk hx.symm
  have UX : Veil (unitsS x = l) := ⟨by rw [hx]; exact strU_units l hl⟩
  have hxs : x.size = 2 * l.length := by rw [hx, strU_size]
  have XS : x.size ≤ 1000000 := by omega
  have XM : x.size ≤ 16777216 := by omega
  have HL := Veil.mk hl
  obtain ⟨S, hS⟩ : ∃ S, S = signs l := ⟨_, rfl⟩
  have SX := Veil.mk hS.symm
  have HN := Veil.mk hN
  have HO : Veil (I < 0 ∨ (x.size : Int) / 2 ≤ I) := ⟨.inl hi⟩
  clear hx hl hN hS hxs
  refine callsIn_of_wp_marks Try.func3 rfl trivial ?_ rfl
  simp only [Try.ntmps3, List.size_toArray, List.length_cons, List.length_nil, Nat.reduceAdd, Nat.reduceSub, Array.replicate_succ, Array.replicate_zero, List.push_toArray, List.append_toArray, List.nil_append, List.cons_append]
  gi_wp2_with (first | (refine ⟨trivial, ?_⟩; gi_at_call 5; ((with_reducible refine (callsIn_wide.2 (fit_any _)).mono ?_); rintro e w1 ⟨rfl, hb1⟩)) | (refine ⟨trivial, ?_⟩; gi_at_call 6; ((with_reducible refine (callsIn_wide.2 (lawStr_at a _ _ l x (by omega) HL.out HX _ (HN.out.on (((Below.refl _ _).alloc (Nat.le_refl _) _).trans (hb1.mono (by simp)))))).mono ?_); rintro e w2 ⟨rfl, hb2⟩)) | (refine ⟨trivial, ?_⟩; gi_at_call 8; ((with_reducible refine (callsIn_wide.2 (list_at x l XS UX _)).mono ?_); rintro e w3 ⟨a3, cap3, rfl, hn3, hno3, hca3, hb3⟩)) | (refine ⟨trivial, ?_⟩; gi_at_call 7; ((with_reducible refine (callsIn_wide.2 (refSigns_at a3 _ cap3 l S (by omega) HL.out SX _ hn3)).mono ?_); rintro e w4 ⟨va, vc, rfl, hR, hb4⟩)) | (refine ⟨trivial, ?_⟩; gi_at_call 9; ((with_reducible refine (callsIn_wide.2 (points_any x _)).mono ?_); rintro e w5 ⟨rfl, rfl⟩)))
  have hB3 : Below w.heap.size w w3 := (((Below.refl _ w).alloc (Nat.le_refl _) _).trans (hb1.mono (by simp))).trans ((hb2.trans (hb3.mono hb2.size)).mono (by have := hb1.size; simp at this; omega))
  have hB4 : Below w.heap.size w w4 := hB3.trans (hb4.mono hB3.size)
  have z3 : w.heap.size < w3.heap.size := by have := hb1.size; have := hb2.size; have := hb3.size; simp at *; omega
  have z4 := hb4.size
  have hR0 : w4.cell? ⟨w.heap.size, 0, none⟩ = some (.bool false) ∧ w4.frozen? ⟨w.heap.size, 0, none⟩ = false := by
    have c0 := cell_new_l w (.bool false) 4
    have hb14 : Below (w.heap.size + 1) (w.alloc (.cells #[.bool false] 4)) w4 := (hb1.mono (by simp)).trans (((hb2.trans (hb3.mono hb2.size)).trans (hb4.mono (by have := hb2.size; have := hb3.size; omega))).mono (by have := hb1.size; simp at this; omega))
    exact ⟨(hb14.cell (p := ⟨w.heap.size, 0, none⟩) (by simp)).trans c0.1, (hb14.frozen (p := ⟨w.heap.size, 0, none⟩) (by simp)).trans c0.2⟩
  have c1 := cell_new_l w4 (.slice va S.length vc) 25
  have c2 := cell_new_l (w4.alloc (.cells #[.slice va S.length vc] 25)) (.int .i64 0) 3
  have c3 := cell_new_l ((w4.alloc (.cells #[.slice va S.length vc] 25)).alloc (.cells #[.int .i64 0] 3)) (.string x) 9
  simp only [World.size_alloc] at c2 c3
  have hL0 : LoopI w w3.heap.size w.heap.size w4.heap.size (.slice va S.length vc) S 0 (((w4.alloc (.cells #[.slice va S.length vc] 25)).alloc (.cells #[.int .i64 0] 3)).alloc (.cells #[.string x] 9)) :=
    ⟨cell_alloc_l _ (cell_alloc_l _ (cell_alloc_l _ hR0.1)), frozen_alloc_l _ (cell_alloc_l _ (cell_alloc_l _ hR0.1)) (frozen_alloc_l _ (cell_alloc_l _ hR0.1) (frozen_alloc_l _ hR0.1 hR0.2)),
      cell_alloc_l _ (cell_alloc_l _ c1.1), cell_alloc_l _ c2.1, frozen_alloc_l _ c2.1 c2.2, ((hR.kept (W' := w4.alloc _) (fun b o _ h => (((Below.refl _ w4).alloc (Nat.le_refl _) _).cell (p := ⟨b, o, none⟩) h))).kept (W' := (w4.alloc _).alloc _) (fun b o _ h => (((Below.refl _ _).alloc (Nat.le_refl _) _).cell (p := ⟨b, o, none⟩) (by simp; omega)))).kept (fun b o _ h => (((Below.refl _ _).alloc (Nat.le_refl _) _).cell (p := ⟨b, o, none⟩) (by simp; omega))),
      by simp, ((hB4.alloc (by omega) _).alloc (by simp; omega) _).alloc (by simp; omega) _⟩
  clear hR hR0 c1 c2 hn3 hno3 hca3 hB3
  refine wpIn_rangeFunc_ownF rfl h1 (gf := 17) (lb := #[.pointer (some ⟨w4.heap.size + 1 + 1, 0, none⟩)]) rfl trivial (enters_of Try.func17 (by kernel_rfl) rfl)
    (points_stops (n - 1) (by omega) (w4.heap.size + 1 + 1) l (by omega) HL.out _ (by simp) (by rw [HX.out]; exact c3.1)) KeepBox.trans (fun W k _ o' hk _ _ _ => cell_putObj W k _ o' (by simp at hk; omega)) (Below.refl _ _) (fun _ => rfl)
    (fun pre W => LoopI w w3.heap.size w.heap.size w4.heap.size (.slice va S.length vc) S pre.length W) (fun c pre _ => LoopX S c pre) (LoopI.own (by simp; omega)) (fun _ _ _ _ _ hs _ _ => hs) hL0
    (fun y => { tmps := #[Value.slice a l.length ca, Value.int IntKind.i64 I, undef, undef, Value.pointer (some { block := w.heap.size, off := 0 }), Value.string x, Value.pointer (some { block := w4.heap.size, off := 0 }), Value.pointer (some { block := w4.heap.size + 1, off := 0 }), .string (strU y), undef, undef, undef, undef, Value.bool true, Value.bool false, Value.slice a l.length ca, Value.int IntKind.i64 (l.length : Int), Value.bool (decide ((3000 : Int) < (l.length : Int))), Value.slice a l.length ca, Value.string x, Value.string x, Value.slice a3 l.length cap3, Value.slice va S.length vc, Value.string x, Value.func (Fn.func 17) #[] #[Value.pointer (some { block := w4.heap.size + 1 + 1, off := 0 })], .string (strU y), undef, undef, undef, undef, undef, undef, undef, undef, undef, undef, undef, undef, undef, undef, undef, undef, undef, undef, undef, undef, undef, undef, undef, undef, undef, undef, undef, undef, undef, undef, undef, undef, undef, undef, undef, undef, undef, undef, undef, undef, undef, undef, undef, undef, undef, undef, undef, undef, undef, undef, undef, undef, undef, undef, undef, undef, undef, undef, undef, undef, undef, undef, undef, undef, undef, undef, undef, undef, undef, undef, undef, undef, undef], defers := [] }) ?assign ?body ?done ?stop
  case assign =>
    intro k y W K hK
    gi_wp2
    exact hK
  case body =>
    rintro L pre y W hI hlt
    rw [SX.out] at hlt
    have hus : S[pre.length]? = some S[pre.length] := List.getElem?_eq_getElem hlt
    obtain ⟨us, hud⟩ : ∃ us, us = S[pre.length] := ⟨_, rfl⟩
    rw [← hud] at hus
    clear hud
    obtain ⟨b, g, vc', hv, hcw, hnu⟩ := hI.rows.nums (by have := hI.sz; omega) pre.length us hus
    cases hv
    have hu : ∀ u ∈ us, u < 65536 := signs_bound l HL.out us (by rw [SX.out]; exact List.mem_of_getElem? hus)
    have hsz : us.length ≤ 1000000 := Nat.le_trans (signs_short l us (by rw [SX.out]; exact List.mem_of_getElem? hus)) (by omega)
    have hrc := hI.rc
    have hwc := hI.wc
    have hkc := hI.kc
    have hlt1 : pre.length < S.length := hlt
    have hk0 : (0 : Int) ≤ (pre.length : Int) := by omega
    have hk1 : (pre.length : Int) < (S.length : Int) := by omega
    have hkn : ((pre.length : Int) == (S.length : Int)) = false := beq_eq_false_iff_ne.2 (by omega)
    have hSl : S.length ≤ 3000 := by rw [← SX.out]; exact Nat.le_trans (signs_count l) hlen
    obtain ⟨p, hp⟩ : ∃ p, p = strU y := ⟨_, rfl⟩
    obtain ⟨q, hq⟩ : ∃ q, q = strU us := ⟨_, rfl⟩
    have HQ := Veil.mk hq.symm
    have HP := Veil.mk hp.symm
    rw [← hp]
    clear hp hq
    have h2 : 1 ≤ n - 1 - 1 := by omega
    have hon := fun W' hb => hI.on (W' := W') hb (by omega)
    rcases strU_dec p q with rfl | hne
    · gi_wp2_with (first | (refine ⟨trivial, ?_⟩; gi_at_call 10; ((with_reducible refine (CallsIn.inRound L (callsIn_wide.2 (str_at _ _ _ us p hsz hu HQ _ hnu))).mono ?_); rintro e w6 ⟨rfl, hb6⟩; obtain ⟨hI6r, hI6f, hI6w, hI6k, hI6kf, hI6s⟩ := LoopI.parts (hon _ hb6))))
      have hx := hI6s.next (by omega) (by omega) (pre.length + 1) (.int .i64 ((pre.length : Int) + 1)) (by go_num)
      exact ⟨(KeepsOthers.of_below hb6).trans (KeepsOthers.setCell _ _ _), (cell_apart _ _ _ _ _ _ (by omega)).trans ((old_cells hb6).1 _ _ hI.sz), by show LoopI _ _ _ _ _ _ (pre ++ [y]).length _; rw [List.length_append]; exact hx⟩
    · have hqe : (p.toList == q.toList) = false := strU_ne hne
      gi_wp2_with (first | (refine ⟨trivial, ?_⟩; gi_at_call 10; ((with_reducible refine (CallsIn.inRound L (callsIn_wide.2 (str_at _ _ _ us q hsz hu HQ _ hnu))).mono ?_); rintro e w6 ⟨rfl, hb6⟩; obtain ⟨hI6r, hI6f, hI6w, hI6k, hI6kf, hI6s⟩ := LoopI.parts (hon _ hb6))))
      exact ⟨(KeepsOthers.of_below hb6).trans (KeepsOthers.setCell _ _ _), rfl, pre, y, us, rfl, hus, by rw [HP.out, HQ.out]; exact hne⟩
  case done =>
    rintro D ys W hD rfl hI hK
    rw [SX.out] at hI
    obtain ⟨hIr, hIf, hIw, hIk, hIkf, hIs⟩ := LoopI.parts hI
    have hDl := (Array.getElem?_eq_some_iff.1 hK).1
    simp only [World.size_alloc] at hD
    gi_wp2_with (first | (refine ⟨trivial, ?_⟩; gi_at_call 11; ((with_reducible refine (callsIn_wide.2 (point_out x XM I HO.out _)).mono ?_); rintro e w7 ⟨rfl, rfl⟩)))
    exact fin_ret rfl hIr hK (by omega) hIs.bel

  case stop =>
    rintro D c pre W hD hpre hx _
    exact (LoopX.none hx (by rw [← SX.out]; exact hpre)).elim

set_option maxRecDepth 100000 in
set_option maxHeartbeats 2000000 in
theorem signs_out2 (n : Nat) (hn : 4 ≤ n) (a : Option Addr) (ca : Nat) (l : List Nat) (I : Int) (hi : (l.length : Int) ≤ I) (hlen : l.length ≤ 3000) (hl : ∀ u ∈ l, u < 65536) (w : World) (hN : Nums .u16 w a l.length l) :
    CallsIn Fence.wide n Try.prog 3 #[.slice a l.length ca, .int .i64 I] w fun e w' => e = .returned (.bool true) ∧ Below w.heap.size w w' := by
  have g1 : ¬ (3000 : Int) < (l.length : Int) := by omega
  have h1 : 1 ≤ n := by omega
  obtain ⟨x, hx⟩ : ∃ x, x = strU l := ⟨_, rfl⟩
  have HX := Veil.mk hx.symm
  have UX : Veil (unitsS x = l) := ⟨by rw [hx]; exact strU_units l hl⟩
  have hxs : x.size = 2 * l.length := by rw [hx, strU_size]
  have XS : x.size ≤ 1000000 := by omega
  have XM : x.size ≤ 16777216 := by omega
  have HL := Veil.mk hl
  obtain ⟨S, hS⟩ : ∃ S, S = signs l := ⟨_, rfl⟩
  have SX := Veil.mk hS.symm
  have HN := Veil.mk hN
  have HO : Veil (I < 0 ∨ (x.size : Int) / 2 ≤ I) := ⟨.inr (by omega)⟩
  have hi0 : ¬ I < 0 := by omega
  clear hx hl hN hS hxs
  refine callsIn_of_wp_marks Try.func3 rfl trivial ?_ rfl
  simp only [Try.ntmps3, List.size_toArray, List.length_cons, List.length_nil, Nat.reduceAdd, Nat.reduceSub, Array.replicate_succ, Array.replicate_zero, List.push_toArray, List.append_toArray, List.nil_append, List.cons_append]
  gi_wp2_with (first | (refine ⟨trivial, ?_⟩; gi_at_call 5; ((with_reducible refine (callsIn_wide.2 (fit_any _)).mono ?_); rintro e w1 ⟨rfl, hb1⟩)) | (refine ⟨trivial, ?_⟩; gi_at_call 6; ((with_reducible refine (callsIn_wide.2 (lawStr_at a _ _ l x (by omega) HL.out HX _ (HN.out.on (((Below.refl _ _).alloc (Nat.le_refl _) _).trans (hb1.mono (by simp)))))).mono ?_); rintro e w2 ⟨rfl, hb2⟩)) | (refine ⟨trivial, ?_⟩; gi_at_call 8; ((with_reducible refine (callsIn_wide.2 (list_at x l XS UX _)).mono ?_); rintro e w3 ⟨a3, cap3, rfl, hn3, hno3, hca3, hb3⟩)) | (refine ⟨trivial, ?_⟩; gi_at_call 7; ((with_reducible refine (callsIn_wide.2 (refSigns_at a3 _ cap3 l S (by omega) HL.out SX _ hn3)).mono ?_); rintro e w4 ⟨va, vc, rfl, hR, hb4⟩)) | (refine ⟨trivial, ?_⟩; gi_at_call 9; ((with_reducible refine (callsIn_wide.2 (points_any x _)).mono ?_); rintro e w5 ⟨rfl, rfl⟩)))
  have hB3 : Below w.heap.size w w3 := (((Below.refl _ w).alloc (Nat.le_refl _) _).trans (hb1.mono (by simp))).trans ((hb2.trans (hb3.mono hb2.size)).mono (by have := hb1.size; simp at this; omega))
  have hB4 : Below w.heap.size w w4 := hB3.trans (hb4.mono hB3.size)
  have z3 : w.heap.size < w3.heap.size := by have := hb1.size; have := hb2.size; have := hb3.size; simp at *; omega
  have z4 := hb4.size
  have hR0 : w4.cell? ⟨w.heap.size, 0, none⟩ = some (.bool false) ∧ w4.frozen? ⟨w.heap.size, 0, none⟩ = false := by
    have c0 := cell_new_l w (.bool false) 4
    have hb14 : Below (w.heap.size + 1) (w.alloc (.cells #[.bool false] 4)) w4 := (hb1.mono (by simp)).trans (((hb2.trans (hb3.mono hb2.size)).trans (hb4.mono (by have := hb2.size; have := hb3.size; omega))).mono (by have := hb1.size; simp at this; omega))
    exact ⟨(hb14.cell (p := ⟨w.heap.size, 0, none⟩) (by simp)).trans c0.1, (hb14.frozen (p := ⟨w.heap.size, 0, none⟩) (by simp)).trans c0.2⟩
  have c1 := cell_new_l w4 (.slice va S.length vc) 25
  have c2 := cell_new_l (w4.alloc (.cells #[.slice va S.length vc] 25)) (.int .i64 0) 3
  have c3 := cell_new_l ((w4.alloc (.cells #[.slice va S.length vc] 25)).alloc (.cells #[.int .i64 0] 3)) (.string x) 9
  simp only [World.size_alloc] at c2 c3
  have hL0 : LoopI w w3.heap.size w.heap.size w4.heap.size (.slice va S.length vc) S 0 (((w4.alloc (.cells #[.slice va S.length vc] 25)).alloc (.cells #[.int .i64 0] 3)).alloc (.cells #[.string x] 9)) :=
    ⟨cell_alloc_l _ (cell_alloc_l _ (cell_alloc_l _ hR0.1)), frozen_alloc_l _ (cell_alloc_l _ (cell_alloc_l _ hR0.1)) (frozen_alloc_l _ (cell_alloc_l _ hR0.1) (frozen_alloc_l _ hR0.1 hR0.2)),
      cell_alloc_l _ (cell_alloc_l _ c1.1), cell_alloc_l _ c2.1, frozen_alloc_l _ c2.1 c2.2, ((hR.kept (W' := w4.alloc _) (fun b o _ h => (((Below.refl _ w4).alloc (Nat.le_refl _) _).cell (p := ⟨b, o, none⟩) h))).kept (W' := (w4.alloc _).alloc _) (fun b o _ h => (((Below.refl _ _).alloc (Nat.le_refl _) _).cell (p := ⟨b, o, none⟩) (by simp; omega)))).kept (fun b o _ h => (((Below.refl _ _).alloc (Nat.le_refl _) _).cell (p := ⟨b, o, none⟩) (by simp; omega))),
      by simp, ((hB4.alloc (by omega) _).alloc (by simp; omega) _).alloc (by simp; omega) _⟩
  clear hR hR0 c1 c2 hn3 hno3 hca3 hB3
  refine wpIn_rangeFunc_ownF rfl h1 (gf := 17) (lb := #[.pointer (some ⟨w4.heap.size + 1 + 1, 0, none⟩)]) rfl trivial (enters_of Try.func17 (by kernel_rfl) rfl)
    (points_stops (n - 1) (by omega) (w4.heap.size + 1 + 1) l (by omega) HL.out _ (by simp) (by rw [HX.out]; exact c3.1)) KeepBox.trans (fun W k _ o' hk _ _ _ => cell_putObj W k _ o' (by simp at hk; omega)) (Below.refl _ _) (fun _ => rfl)
    (fun pre W => LoopI w w3.heap.size w.heap.size w4.heap.size (.slice va S.length vc) S pre.length W) (fun c pre _ => LoopX S c pre) (LoopI.own (by simp; omega)) (fun _ _ _ _ _ hs _ _ => hs) hL0
    (fun y => { tmps := #[Value.slice a l.length ca, Value.int IntKind.i64 I, undef, undef, Value.pointer (some { block := w.heap.size, off := 0 }), Value.string x, Value.pointer (some { block := w4.heap.size, off := 0 }), Value.pointer (some { block := w4.heap.size + 1, off := 0 }), .string (strU y), undef, undef, undef, undef, Value.bool true, Value.bool false, Value.slice a l.length ca, Value.int IntKind.i64 (l.length : Int), Value.bool (decide ((3000 : Int) < (l.length : Int))), Value.slice a l.length ca, Value.string x, Value.string x, Value.slice a3 l.length cap3, Value.slice va S.length vc, Value.string x, Value.func (Fn.func 17) #[] #[Value.pointer (some { block := w4.heap.size + 1 + 1, off := 0 })], .string (strU y), undef, undef, undef, undef, undef, undef, undef, undef, undef, undef, undef, undef, undef, undef, undef, undef, undef, undef, undef, undef, undef, undef, undef, undef, undef, undef, undef, undef, undef, undef, undef, undef, undef, undef, undef, undef, undef, undef, undef, undef, undef, undef, undef, undef, undef, undef, undef, undef, undef, undef, undef, undef, undef, undef, undef, undef, undef, undef, undef, undef, undef, undef, undef, undef, undef, undef, undef, undef, undef, undef, undef, undef, undef], defers := [] }) ?assign ?body ?done ?stop
  case assign =>
    intro k y W K hK
    gi_wp2
    exact hK
  case body =>
    rintro L pre y W hI hlt
    rw [SX.out] at hlt
    have hus : S[pre.length]? = some S[pre.length] := List.getElem?_eq_getElem hlt
    obtain ⟨us, hud⟩ : ∃ us, us = S[pre.length] := ⟨_, rfl⟩
    rw [← hud] at hus
    clear hud
    obtain ⟨b, g, vc', hv, hcw, hnu⟩ := hI.rows.nums (by have := hI.sz; omega) pre.length us hus
    cases hv
    have hu : ∀ u ∈ us, u < 65536 := signs_bound l HL.out us (by rw [SX.out]; exact List.mem_of_getElem? hus)
    have hsz : us.length ≤ 1000000 := Nat.le_trans (signs_short l us (by rw [SX.out]; exact List.mem_of_getElem? hus)) (by omega)
    have hrc := hI.rc
    have hwc := hI.wc
    have hkc := hI.kc
    have hlt1 : pre.length < S.length := hlt
    have hk0 : (0 : Int) ≤ (pre.length : Int) := by omega
    have hk1 : (pre.length : Int) < (S.length : Int) := by omega
    have hkn : ((pre.length : Int) == (S.length : Int)) = false := beq_eq_false_iff_ne.2 (by omega)
    have hSl : S.length ≤ 3000 := by rw [← SX.out]; exact Nat.le_trans (signs_count l) hlen
    obtain ⟨p, hp⟩ : ∃ p, p = strU y := ⟨_, rfl⟩
    obtain ⟨q, hq⟩ : ∃ q, q = strU us := ⟨_, rfl⟩
    have HQ := Veil.mk hq.symm
    have HP := Veil.mk hp.symm
    rw [← hp]
    clear hp hq
    have h2 : 1 ≤ n - 1 - 1 := by omega
    have hon := fun W' hb => hI.on (W' := W') hb (by omega)
    rcases strU_dec p q with rfl | hne
    · gi_wp2_with (first | (refine ⟨trivial, ?_⟩; gi_at_call 10; ((with_reducible refine (CallsIn.inRound L (callsIn_wide.2 (str_at _ _ _ us p hsz hu HQ _ hnu))).mono ?_); rintro e w6 ⟨rfl, hb6⟩; obtain ⟨hI6r, hI6f, hI6w, hI6k, hI6kf, hI6s⟩ := LoopI.parts (hon _ hb6))))
      have hx := hI6s.next (by omega) (by omega) (pre.length + 1) (.int .i64 ((pre.length : Int) + 1)) (by go_num)
      exact ⟨(KeepsOthers.of_below hb6).trans (KeepsOthers.setCell _ _ _), (cell_apart _ _ _ _ _ _ (by omega)).trans ((old_cells hb6).1 _ _ hI.sz), by show LoopI _ _ _ _ _ _ (pre ++ [y]).length _; rw [List.length_append]; exact hx⟩
    · have hqe : (p.toList == q.toList) = false := strU_ne hne
      gi_wp2_with (first | (refine ⟨trivial, ?_⟩; gi_at_call 10; ((with_reducible refine (CallsIn.inRound L (callsIn_wide.2 (str_at _ _ _ us q hsz hu HQ _ hnu))).mono ?_); rintro e w6 ⟨rfl, hb6⟩; obtain ⟨hI6r, hI6f, hI6w, hI6k, hI6kf, hI6s⟩ := LoopI.parts (hon _ hb6))))
      exact ⟨(KeepsOthers.of_below hb6).trans (KeepsOthers.setCell _ _ _), rfl, pre, y, us, rfl, hus, by rw [HP.out, HQ.out]; exact hne⟩
  case done =>
    rintro D ys W hD rfl hI hK
    rw [SX.out] at hI
    obtain ⟨hIr, hIf, hIw, hIk, hIkf, hIs⟩ := LoopI.parts hI
    have hDl := (Array.getElem?_eq_some_iff.1 hK).1
    simp only [World.size_alloc] at hD
    gi_wp2_with (first | (refine ⟨trivial, ?_⟩; gi_at_call 11; ((with_reducible refine (callsIn_wide.2 (point_out x XM I HO.out _)).mono ?_); rintro e w7 ⟨rfl, rfl⟩)))
    exact fin_ret rfl hIr hK (by omega) hIs.bel

  case stop =>
    rintro D c pre W hD hpre hx _
    exact (LoopX.none hx (by rw [← SX.out]; exact hpre)).elim

set_option maxRecDepth 100000 in
set_option maxHeartbeats 2000000 in
theorem signs_in1 (n : Nat) (hn : 4 ≤ n) (a : Option Addr) (ca : Nat) (l : List Nat) (j : Nat) (hj : j < l.length) (hsp : (isHi (l[j]?.getD 0) && isLo (l[j + 1]?.getD 0)) = false) (hlen : l.length ≤ 3000) (hl : ∀ u ∈ l, u < 65536) (w : World) (hN : Nums .u16 w a l.length l) :
    CallsIn Fence.wide n Try.prog 3 #[.slice a l.length ca, .int .i64 (j : Int)] w fun e w' => e = .returned (.bool true) ∧ Below w.heap.size w w' := by
  have g1 : ¬ (3000 : Int) < (l.length : Int) := by omega
  have h1 : 1 ≤ n := by omega
  obtain ⟨x, hx⟩ : ∃ x, x = strU l := ⟨_, rfl⟩
  have HX := Veil.mk hx.symm
  have UX : Veil (unitsS x = l) := ⟨by rw [hx]; exact strU_units l hl⟩
  have hxs : x.size = 2 * l.length := by rw [hx, strU_size]
  have XS : x.size ≤ 1000000 := by omega
  have XM : x.size ≤ 16777216 := by omega
  have HL := Veil.mk hl
  obtain ⟨S, hS⟩ : ∃ S, S = signs l := ⟨_, rfl⟩
  have SX := Veil.mk hS.symm
  have HN := Veil.mk hN
  have hjx : j < x.size / 2 := by omega
  have HPT := fun w => point_in x XM j hjx w
  rw [UX.out] at HPT
  obtain ⟨u, hu⟩ : ∃ u, u = l[j]?.getD 0 := ⟨_, rfl⟩
  obtain ⟨v, hv⟩ : ∃ v, v = l[j + 1]?.getD 0 := ⟨_, rfl⟩
  rw [← hu, ← hv] at HPT
  have HS2 := signs_one l j hj (hsp)
  rw [← hu] at HS2
  have hu6 : u < 65536 := by rw [hu, List.getElem?_eq_getElem hj]; exact hl _ (List.getElem_mem _)
  replace HS2 := Veil.mk HS2
  rw [show ptP u v = (u, 1) by simp only [ptP]; rw [if_neg (by rw [hu, hv, hsp]; simp)]] at HPT
  dsimp only at HPT
  clear hu hv hsp
  clear hx hl hN hS hxs
  refine callsIn_of_wp_marks Try.func3 rfl trivial ?_ rfl
  simp only [Try.ntmps3, List.size_toArray, List.length_cons, List.length_nil, Nat.reduceAdd, Nat.reduceSub, Array.replicate_succ, Array.replicate_zero, List.push_toArray, List.append_toArray, List.nil_append, List.cons_append]
  gi_wp2_with (first | (refine ⟨trivial, ?_⟩; gi_at_call 5; ((with_reducible refine (callsIn_wide.2 (fit_any _)).mono ?_); rintro e w1 ⟨rfl, hb1⟩)) | (refine ⟨trivial, ?_⟩; gi_at_call 6; ((with_reducible refine (callsIn_wide.2 (lawStr_at a _ _ l x (by omega) HL.out HX _ (HN.out.on (((Below.refl _ _).alloc (Nat.le_refl _) _).trans (hb1.mono (by simp)))))).mono ?_); rintro e w2 ⟨rfl, hb2⟩)) | (refine ⟨trivial, ?_⟩; gi_at_call 8; ((with_reducible refine (callsIn_wide.2 (list_at x l XS UX _)).mono ?_); rintro e w3 ⟨a3, cap3, rfl, hn3, hno3, hca3, hb3⟩)) | (refine ⟨trivial, ?_⟩; gi_at_call 7; ((with_reducible refine (callsIn_wide.2 (refSigns_at a3 _ cap3 l S (by omega) HL.out SX _ hn3)).mono ?_); rintro e w4 ⟨va, vc, rfl, hR, hb4⟩)) | (refine ⟨trivial, ?_⟩; gi_at_call 9; ((with_reducible refine (callsIn_wide.2 (points_any x _)).mono ?_); rintro e w5 ⟨rfl, rfl⟩)))
  have hB3 : Below w.heap.size w w3 := (((Below.refl _ w).alloc (Nat.le_refl _) _).trans (hb1.mono (by simp))).trans ((hb2.trans (hb3.mono hb2.size)).mono (by have := hb1.size; simp at this; omega))
  have hB4 : Below w.heap.size w w4 := hB3.trans (hb4.mono hB3.size)
  have z3 : w.heap.size < w3.heap.size := by have := hb1.size; have := hb2.size; have := hb3.size; simp at *; omega
  have z4 := hb4.size
  have hR0 : w4.cell? ⟨w.heap.size, 0, none⟩ = some (.bool false) ∧ w4.frozen? ⟨w.heap.size, 0, none⟩ = false := by
    have c0 := cell_new_l w (.bool false) 4
    have hb14 : Below (w.heap.size + 1) (w.alloc (.cells #[.bool false] 4)) w4 := (hb1.mono (by simp)).trans (((hb2.trans (hb3.mono hb2.size)).trans (hb4.mono (by have := hb2.size; have := hb3.size; omega))).mono (by have := hb1.size; simp at this; omega))
    exact ⟨(hb14.cell (p := ⟨w.heap.size, 0, none⟩) (by simp)).trans c0.1, (hb14.frozen (p := ⟨w.heap.size, 0, none⟩) (by simp)).trans c0.2⟩
  have c1 := cell_new_l w4 (.slice va S.length vc) 25
  have c2 := cell_new_l (w4.alloc (.cells #[.slice va S.length vc] 25)) (.int .i64 0) 3
  have c3 := cell_new_l ((w4.alloc (.cells #[.slice va S.length vc] 25)).alloc (.cells #[.int .i64 0] 3)) (.string x) 9
  simp only [World.size_alloc] at c2 c3
  have hL0 : LoopI w w3.heap.size w.heap.size w4.heap.size (.slice va S.length vc) S 0 (((w4.alloc (.cells #[.slice va S.length vc] 25)).alloc (.cells #[.int .i64 0] 3)).alloc (.cells #[.string x] 9)) :=
    ⟨cell_alloc_l _ (cell_alloc_l _ (cell_alloc_l _ hR0.1)), frozen_alloc_l _ (cell_alloc_l _ (cell_alloc_l _ hR0.1)) (frozen_alloc_l _ (cell_alloc_l _ hR0.1) (frozen_alloc_l _ hR0.1 hR0.2)),
      cell_alloc_l _ (cell_alloc_l _ c1.1), cell_alloc_l _ c2.1, frozen_alloc_l _ c2.1 c2.2, ((hR.kept (W' := w4.alloc _) (fun b o _ h => (((Below.refl _ w4).alloc (Nat.le_refl _) _).cell (p := ⟨b, o, none⟩) h))).kept (W' := (w4.alloc _).alloc _) (fun b o _ h => (((Below.refl _ _).alloc (Nat.le_refl _) _).cell (p := ⟨b, o, none⟩) (by simp; omega)))).kept (fun b o _ h => (((Below.refl _ _).alloc (Nat.le_refl _) _).cell (p := ⟨b, o, none⟩) (by simp; omega))),
      by simp, ((hB4.alloc (by omega) _).alloc (by simp; omega) _).alloc (by simp; omega) _⟩
  clear hR hR0 c1 c2 hn3 hno3 hca3 hB3
  refine wpIn_rangeFunc_ownF rfl h1 (gf := 17) (lb := #[.pointer (some ⟨w4.heap.size + 1 + 1, 0, none⟩)]) rfl trivial (enters_of Try.func17 (by kernel_rfl) rfl)
    (points_stops (n - 1) (by omega) (w4.heap.size + 1 + 1) l (by omega) HL.out _ (by simp) (by rw [HX.out]; exact c3.1)) KeepBox.trans (fun W k _ o' hk _ _ _ => cell_putObj W k _ o' (by simp at hk; omega)) (Below.refl _ _) (fun _ => rfl)
    (fun pre W => LoopI w w3.heap.size w.heap.size w4.heap.size (.slice va S.length vc) S pre.length W) (fun c pre _ => LoopX S c pre) (LoopI.own (by simp; omega)) (fun _ _ _ _ _ hs _ _ => hs) hL0
    (fun y => { tmps := #[Value.slice a l.length ca, Value.int IntKind.i64 (j : Int), undef, undef, Value.pointer (some { block := w.heap.size, off := 0 }), Value.string x, Value.pointer (some { block := w4.heap.size, off := 0 }), Value.pointer (some { block := w4.heap.size + 1, off := 0 }), .string (strU y), undef, undef, undef, undef, Value.bool true, Value.bool false, Value.slice a l.length ca, Value.int IntKind.i64 (l.length : Int), Value.bool (decide ((3000 : Int) < (l.length : Int))), Value.slice a l.length ca, Value.string x, Value.string x, Value.slice a3 l.length cap3, Value.slice va S.length vc, Value.string x, Value.func (Fn.func 17) #[] #[Value.pointer (some { block := w4.heap.size + 1 + 1, off := 0 })], .string (strU y), undef, undef, undef, undef, undef, undef, undef, undef, undef, undef, undef, undef, undef, undef, undef, undef, undef, undef, undef, undef, undef, undef, undef, undef, undef, undef, undef, undef, undef, undef, undef, undef, undef, undef, undef, undef, undef, undef, undef, undef, undef, undef, undef, undef, undef, undef, undef, undef, undef, undef, undef, undef, undef, undef, undef, undef, undef, undef, undef, undef, undef, undef, undef, undef, undef, undef, undef, undef, undef, undef, undef, undef, undef], defers := [] }) ?assign ?body ?done ?stop
  case assign =>
    intro k y W K hK
    gi_wp2
    exact hK
  case body =>
    rintro L pre y W hI hlt
    rw [SX.out] at hlt
    have hus : S[pre.length]? = some S[pre.length] := List.getElem?_eq_getElem hlt
    obtain ⟨us, hud⟩ : ∃ us, us = S[pre.length] := ⟨_, rfl⟩
    rw [← hud] at hus
    clear hud
    obtain ⟨b, g, vc', hv, hcw, hnu⟩ := hI.rows.nums (by have := hI.sz; omega) pre.length us hus
    cases hv
    have hu : ∀ u ∈ us, u < 65536 := signs_bound l HL.out us (by rw [SX.out]; exact List.mem_of_getElem? hus)
    have hsz : us.length ≤ 1000000 := Nat.le_trans (signs_short l us (by rw [SX.out]; exact List.mem_of_getElem? hus)) (by omega)
    have hrc := hI.rc
    have hwc := hI.wc
    have hkc := hI.kc
    have hlt1 : pre.length < S.length := hlt
    have hk0 : (0 : Int) ≤ (pre.length : Int) := by omega
    have hk1 : (pre.length : Int) < (S.length : Int) := by omega
    have hkn : ((pre.length : Int) == (S.length : Int)) = false := beq_eq_false_iff_ne.2 (by omega)
    have hSl : S.length ≤ 3000 := by rw [← SX.out]; exact Nat.le_trans (signs_count l) hlen
    obtain ⟨p, hp⟩ : ∃ p, p = strU y := ⟨_, rfl⟩
    obtain ⟨q, hq⟩ : ∃ q, q = strU us := ⟨_, rfl⟩
    have HQ := Veil.mk hq.symm
    have HP := Veil.mk hp.symm
    rw [← hp]
    clear hp hq
    have h2 : 1 ≤ n - 1 - 1 := by omega
    have hon := fun W' hb => hI.on (W' := W') hb (by omega)
    rcases strU_dec p q with rfl | hne
    · gi_wp2_with (first | (refine ⟨trivial, ?_⟩; gi_at_call 10; ((with_reducible refine (CallsIn.inRound L (callsIn_wide.2 (str_at _ _ _ us p hsz hu HQ _ hnu))).mono ?_); rintro e w6 ⟨rfl, hb6⟩; obtain ⟨hI6r, hI6f, hI6w, hI6k, hI6kf, hI6s⟩ := LoopI.parts (hon _ hb6))))
      have hx := hI6s.next (by omega) (by omega) (pre.length + 1) (.int .i64 ((pre.length : Int) + 1)) (by go_num)
      exact ⟨(KeepsOthers.of_below hb6).trans (KeepsOthers.setCell _ _ _), (cell_apart _ _ _ _ _ _ (by omega)).trans ((old_cells hb6).1 _ _ hI.sz), by show LoopI _ _ _ _ _ _ (pre ++ [y]).length _; rw [List.length_append]; exact hx⟩
    · have hqe : (p.toList == q.toList) = false := strU_ne hne
      gi_wp2_with (first | (refine ⟨trivial, ?_⟩; gi_at_call 10; ((with_reducible refine (CallsIn.inRound L (callsIn_wide.2 (str_at _ _ _ us q hsz hu HQ _ hnu))).mono ?_); rintro e w6 ⟨rfl, hb6⟩; obtain ⟨hI6r, hI6f, hI6w, hI6k, hI6kf, hI6s⟩ := LoopI.parts (hon _ hb6))))
      exact ⟨(KeepsOthers.of_below hb6).trans (KeepsOthers.setCell _ _ _), rfl, pre, y, us, rfl, hus, by rw [HP.out, HQ.out]; exact hne⟩
  case done =>
    rintro D ys W hD rfl hI hK
    rw [SX.out] at hI
    obtain ⟨hIr, hIf, hIw, hIk, hIkf, hIs⟩ := LoopI.parts hI
    have hDl := (Array.getElem?_eq_some_iff.1 hK).1
    simp only [World.size_alloc] at hD
    have hj1 : (0 : Int) ≤ (j : Int) := by omega
    have hj2 : ¬ (l.length : Int) ≤ (j : Int) := by omega
    have hj3 : ¬ (j : Int) < 0 := by omega
    gi_wp2_with (first | (refine ⟨trivial, ?_⟩; gi_at_call 11; ((with_reducible refine (callsIn_wide.2 (HPT _)).mono ?_); rintro e w7 ⟨rfl, m, rfl⟩; have hI7 := hIs.on (below_drewN (Below.refl _ _) m) (by omega))) | (refine ⟨trivial, ?_⟩; gi_at_call 8; ((with_reducible refine (callsIn_wide.2 (list_at2 x l XS UX (by omega) _)).mono ?_); rintro e w8 ⟨g8, cap8, rfl, hn8, hc8, hb8⟩; have hI8 := hI7.on hb8 (by omega); have hc9 : (j : Int) ≤ (cap8 : Int) := (by omega); have hc10 : ¬ cap8 = j := (by omega))) | (refine ⟨trivial, ?_⟩; gi_at_call 7; ((with_reducible refine (callsIn_wide.2 (refSigns_first _ _ _ (l.drop j) [u] _ (by omega) (fun u hu => HL.out u (List.mem_of_mem_drop hu)) HS2 _ (nums_from hn8 j (by omega)))).mono ?_); rintro e w9 ⟨b9, g9, len9, cap9, rfl, hl9, hc91, hc92, hb9⟩; have hI9 := hI8.on hb9 (by omega); obtain ⟨hr9, hf9, -⟩ := LoopI.parts hI9; have hc93 : w9.cell? ⟨g9, 0, none⟩ = some (.int .i64 (u : Int)) := hc92 0 (by simp))))
    have hK8 : w8.heap[D]? = some (.deferred (some [])) := (hb8.block D hDl).trans hK
    have hK9 : w9.heap[D]? = some (.deferred (some [])) := (hb9.block D (Array.getElem?_eq_some_iff.1 hK8).1).trans hK8
    exact fin_ret rfl hI9.rc hK9 (by omega) hI9.bel

  case stop =>
    rintro D c pre W hD hpre hx _
    exact (LoopX.none hx (by rw [← SX.out]; exact hpre)).elim

set_option maxRecDepth 100000 in
set_option maxHeartbeats 2000000 in
theorem signs_in2 (n : Nat) (hn : 4 ≤ n) (a : Option Addr) (ca : Nat) (l : List Nat) (j : Nat) (hj : j < l.length) (hsp : (isHi (l[j]?.getD 0) && isLo (l[j + 1]?.getD 0)) = true) (hlen : l.length ≤ 3000) (hl : ∀ u ∈ l, u < 65536) (w : World) (hN : Nums .u16 w a l.length l) :
    CallsIn Fence.wide n Try.prog 3 #[.slice a l.length ca, .int .i64 (j : Int)] w fun e w' => e = .returned (.bool true) ∧ Below w.heap.size w w' := by
  have g1 : ¬ (3000 : Int) < (l.length : Int) := by omega
  have h1 : 1 ≤ n := by omega
  obtain ⟨x, hx⟩ : ∃ x, x = strU l := ⟨_, rfl⟩
  have HX := Veil.mk hx.symm
  have UX : Veil (unitsS x = l) := ⟨by rw [hx]; exact strU_units l hl⟩
  have hxs : x.size = 2 * l.length := by rw [hx, strU_size]
  have XS : x.size ≤ 1000000 := by omega
  have XM : x.size ≤ 16777216 := by omega
  have HL := Veil.mk hl
  obtain ⟨S, hS⟩ : ∃ S, S = signs l := ⟨_, rfl⟩
  have SX := Veil.mk hS.symm
  have HN := Veil.mk hN
  have hjx : j < x.size / 2 := by omega
  have HPT := fun w => point_in x XM j hjx w
  rw [UX.out] at HPT
  obtain ⟨u, hu⟩ : ∃ u, u = l[j]?.getD 0 := ⟨_, rfl⟩
  obtain ⟨v, hv⟩ : ∃ v, v = l[j + 1]?.getD 0 := ⟨_, rfl⟩
  rw [← hu, ← hv] at HPT
  have HJ2 := pair_next l j hsp
  have HS2 := signs_two l j HJ2 (hsp)
  rw [← hu, ← hv] at HS2
  have hu6 : u < 65536 := by rw [hu, List.getElem?_eq_getElem hj]; exact hl _ (List.getElem_mem _)
  replace HS2 := Veil.mk HS2
  have hsp' : (isHi u && isLo v) = true := by rw [hu, hv]; exact hsp
  rw [show ptP u v = (65536 + (u - 55296) * 1024 + (v - 56320), 2) by simp only [ptP]; rw [if_pos hsp']] at HPT
  dsimp only at HPT
  obtain ⟨hp1, hp2⟩ := Bool.and_eq_true_iff.1 hsp'
  obtain ⟨q1, q2⟩ := (isHi_eq u).1 hp1
  obtain ⟨q3, q4⟩ := (isLo_eq v).1 hp2
  obtain ⟨r, hr⟩ : ∃ r : Nat, r = 65536 + (u - 55296) * 1024 + (v - 56320) := ⟨_, rfl⟩
  rw [← hr] at HPT
  have hre : ((r : Int) == 65536 + ((u : Int) - 55296) * 1024 + (v : Int) - 56320) = true := beq_iff_eq.2 (by omega)
  have hr1 : r ≤ 1114111 := by omega
  have q1' : (55296 : Int) ≤ (u : Int) := by omega
  have q2' : (u : Int) ≤ 56319 := by omega
  have q3' : (56320 : Int) ≤ (v : Int) := by omega
  have q4' : (v : Int) ≤ 57343 := by omega
  clear hu hv hsp hr hp1 hp2 hsp'
  clear hx hl hN hS hxs
  refine callsIn_of_wp_marks Try.func3 rfl trivial ?_ rfl
  simp only [Try.ntmps3, List.size_toArray, List.length_cons, List.length_nil, Nat.reduceAdd, Nat.reduceSub, Array.replicate_succ, Array.replicate_zero, List.push_toArray, List.append_toArray, List.nil_append, List.cons_append]
  gi_wp2_with (first | (refine ⟨trivial, ?_⟩; gi_at_call 5; ((with_reducible refine (callsIn_wide.2 (fit_any _)).mono ?_); rintro e w1 ⟨rfl, hb1⟩)) | (refine ⟨trivial, ?_⟩; gi_at_call 6; ((with_reducible refine (callsIn_wide.2 (lawStr_at a _ _ l x (by omega) HL.out HX _ (HN.out.on (((Below.refl _ _).alloc (Nat.le_refl _) _).trans (hb1.mono (by simp)))))).mono ?_); rintro e w2 ⟨rfl, hb2⟩)) | (refine ⟨trivial, ?_⟩; gi_at_call 8; ((with_reducible refine (callsIn_wide.2 (list_at x l XS UX _)).mono ?_); rintro e w3 ⟨a3, cap3, rfl, hn3, hno3, hca3, hb3⟩)) | (refine ⟨trivial, ?_⟩; gi_at_call 7; ((with_reducible refine (callsIn_wide.2 (refSigns_at a3 _ cap3 l S (by omega) HL.out SX _ hn3)).mono ?_); rintro e w4 ⟨va, vc, rfl, hR, hb4⟩)) | (refine ⟨trivial, ?_⟩; gi_at_call 9; ((with_reducible refine (callsIn_wide.2 (points_any x _)).mono ?_); rintro e w5 ⟨rfl, rfl⟩)))
  have hB3 : Below w.heap.size w w3 := (((Below.refl _ w).alloc (Nat.le_refl _) _).trans (hb1.mono (by simp))).trans ((hb2.trans (hb3.mono hb2.size)).mono (by have := hb1.size; simp at this; omega))
  have hB4 : Below w.heap.size w w4 := hB3.trans (hb4.mono hB3.size)
  have z3 : w.heap.size < w3.heap.size := by have := hb1.size; have := hb2.size; have := hb3.size; simp at *; omega
  have z4 := hb4.size
  have hR0 : w4.cell? ⟨w.heap.size, 0, none⟩ = some (.bool false) ∧ w4.frozen? ⟨w.heap.size, 0, none⟩ = false := by
    have c0 := cell_new_l w (.bool false) 4
    have hb14 : Below (w.heap.size + 1) (w.alloc (.cells #[.bool false] 4)) w4 := (hb1.mono (by simp)).trans (((hb2.trans (hb3.mono hb2.size)).trans (hb4.mono (by have := hb2.size; have := hb3.size; omega))).mono (by have := hb1.size; simp at this; omega))
    exact ⟨(hb14.cell (p := ⟨w.heap.size, 0, none⟩) (by simp)).trans c0.1, (hb14.frozen (p := ⟨w.heap.size, 0, none⟩) (by simp)).trans c0.2⟩
  have c1 := cell_new_l w4 (.slice va S.length vc) 25
  have c2 := cell_new_l (w4.alloc (.cells #[.slice va S.length vc] 25)) (.int .i64 0) 3
  have c3 := cell_new_l ((w4.alloc (.cells #[.slice va S.length vc] 25)).alloc (.cells #[.int .i64 0] 3)) (.string x) 9
  simp only [World.size_alloc] at c2 c3
  have hL0 : LoopI w w3.heap.size w.heap.size w4.heap.size (.slice va S.length vc) S 0 (((w4.alloc (.cells #[.slice va S.length vc] 25)).alloc (.cells #[.int .i64 0] 3)).alloc (.cells #[.string x] 9)) :=
    ⟨cell_alloc_l _ (cell_alloc_l _ (cell_alloc_l _ hR0.1)), frozen_alloc_l _ (cell_alloc_l _ (cell_alloc_l _ hR0.1)) (frozen_alloc_l _ (cell_alloc_l _ hR0.1) (frozen_alloc_l _ hR0.1 hR0.2)),
      cell_alloc_l _ (cell_alloc_l _ c1.1), cell_alloc_l _ c2.1, frozen_alloc_l _ c2.1 c2.2, ((hR.kept (W' := w4.alloc _) (fun b o _ h => (((Below.refl _ w4).alloc (Nat.le_refl _) _).cell (p := ⟨b, o, none⟩) h))).kept (W' := (w4.alloc _).alloc _) (fun b o _ h => (((Below.refl _ _).alloc (Nat.le_refl _) _).cell (p := ⟨b, o, none⟩) (by simp; omega)))).kept (fun b o _ h => (((Below.refl _ _).alloc (Nat.le_refl _) _).cell (p := ⟨b, o, none⟩) (by simp; omega))),
      by simp, ((hB4.alloc (by omega) _).alloc (by simp; omega) _).alloc (by simp; omega) _⟩
  clear hR hR0 c1 c2 hn3 hno3 hca3 hB3
  refine wpIn_rangeFunc_ownF rfl h1 (gf := 17) (lb := #[.pointer (some ⟨w4.heap.size + 1 + 1, 0, none⟩)]) rfl trivial (enters_of Try.func17 (by kernel_rfl) rfl)
    (points_stops (n - 1) (by omega) (w4.heap.size + 1 + 1) l (by omega) HL.out _ (by simp) (by rw [HX.out]; exact c3.1)) KeepBox.trans (fun W k _ o' hk _ _ _ => cell_putObj W k _ o' (by simp at hk; omega)) (Below.refl _ _) (fun _ => rfl)
    (fun pre W => LoopI w w3.heap.size w.heap.size w4.heap.size (.slice va S.length vc) S pre.length W) (fun c pre _ => LoopX S c pre) (LoopI.own (by simp; omega)) (fun _ _ _ _ _ hs _ _ => hs) hL0
    (fun y => { tmps := #[Value.slice a l.length ca, Value.int IntKind.i64 (j : Int), undef, undef, Value.pointer (some { block := w.heap.size, off := 0 }), Value.string x, Value.pointer (some { block := w4.heap.size, off := 0 }), Value.pointer (some { block := w4.heap.size + 1, off := 0 }), .string (strU y), undef, undef, undef, undef, Value.bool true, Value.bool false, Value.slice a l.length ca, Value.int IntKind.i64 (l.length : Int), Value.bool (decide ((3000 : Int) < (l.length : Int))), Value.slice a l.length ca, Value.string x, Value.string x, Value.slice a3 l.length cap3, Value.slice va S.length vc, Value.string x, Value.func (Fn.func 17) #[] #[Value.pointer (some { block := w4.heap.size + 1 + 1, off := 0 })], .string (strU y), undef, undef, undef, undef, undef, undef, undef, undef, undef, undef, undef, undef, undef, undef, undef, undef, undef, undef, undef, undef, undef, undef, undef, undef, undef, undef, undef, undef, undef, undef, undef, undef, undef, undef, undef, undef, undef, undef, undef, undef, undef, undef, undef, undef, undef, undef, undef, undef, undef, undef, undef, undef, undef, undef, undef, undef, undef, undef, undef, undef, undef, undef, undef, undef, undef, undef, undef, undef, undef, undef, undef, undef, undef], defers := [] }) ?assign ?body ?done ?stop
  case assign =>
    intro k y W K hK
    gi_wp2
    exact hK
  case body =>
    rintro L pre y W hI hlt
    rw [SX.out] at hlt
    have hus : S[pre.length]? = some S[pre.length] := List.getElem?_eq_getElem hlt
    obtain ⟨us, hud⟩ : ∃ us, us = S[pre.length] := ⟨_, rfl⟩
    rw [← hud] at hus
    clear hud
    obtain ⟨b, g, vc', hv, hcw, hnu⟩ := hI.rows.nums (by have := hI.sz; omega) pre.length us hus
    cases hv
    have hu : ∀ u ∈ us, u < 65536 := signs_bound l HL.out us (by rw [SX.out]; exact List.mem_of_getElem? hus)
    have hsz : us.length ≤ 1000000 := Nat.le_trans (signs_short l us (by rw [SX.out]; exact List.mem_of_getElem? hus)) (by omega)
    have hrc := hI.rc
    have hwc := hI.wc
    have hkc := hI.kc
    have hlt1 : pre.length < S.length := hlt
    have hk0 : (0 : Int) ≤ (pre.length : Int) := by omega
    have hk1 : (pre.length : Int) < (S.length : Int) := by omega
    have hkn : ((pre.length : Int) == (S.length : Int)) = false := beq_eq_false_iff_ne.2 (by omega)
    have hSl : S.length ≤ 3000 := by rw [← SX.out]; exact Nat.le_trans (signs_count l) hlen
    obtain ⟨p, hp⟩ : ∃ p, p = strU y := ⟨_, rfl⟩
    obtain ⟨q, hq⟩ : ∃ q, q = strU us := ⟨_, rfl⟩
    have HQ := Veil.mk hq.symm
    have HP := Veil.mk hp.symm
    rw [← hp]
    clear hp hq
    have h2 : 1 ≤ n - 1 - 1 := by omega
    have hon := fun W' hb => hI.on (W' := W') hb (by omega)
    rcases strU_dec p q with rfl | hne
    · gi_wp2_with (first | (refine ⟨trivial, ?_⟩; gi_at_call 10; ((with_reducible refine (CallsIn.inRound L (callsIn_wide.2 (str_at _ _ _ us p hsz hu HQ _ hnu))).mono ?_); rintro e w6 ⟨rfl, hb6⟩; obtain ⟨hI6r, hI6f, hI6w, hI6k, hI6kf, hI6s⟩ := LoopI.parts (hon _ hb6))))
      have hx := hI6s.next (by omega) (by omega) (pre.length + 1) (.int .i64 ((pre.length : Int) + 1)) (by go_num)
      exact ⟨(KeepsOthers.of_below hb6).trans (KeepsOthers.setCell _ _ _), (cell_apart _ _ _ _ _ _ (by omega)).trans ((old_cells hb6).1 _ _ hI.sz), by show LoopI _ _ _ _ _ _ (pre ++ [y]).length _; rw [List.length_append]; exact hx⟩
    · have hqe : (p.toList == q.toList) = false := strU_ne hne
      gi_wp2_with (first | (refine ⟨trivial, ?_⟩; gi_at_call 10; ((with_reducible refine (CallsIn.inRound L (callsIn_wide.2 (str_at _ _ _ us q hsz hu HQ _ hnu))).mono ?_); rintro e w6 ⟨rfl, hb6⟩; obtain ⟨hI6r, hI6f, hI6w, hI6k, hI6kf, hI6s⟩ := LoopI.parts (hon _ hb6))))
      exact ⟨(KeepsOthers.of_below hb6).trans (KeepsOthers.setCell _ _ _), rfl, pre, y, us, rfl, hus, by rw [HP.out, HQ.out]; exact hne⟩
  case done =>
    rintro D ys W hD rfl hI hK
    rw [SX.out] at hI
    obtain ⟨hIr, hIf, hIw, hIk, hIkf, hIs⟩ := LoopI.parts hI
    have hDl := (Array.getElem?_eq_some_iff.1 hK).1
    simp only [World.size_alloc] at hD
    have hj1 : (0 : Int) ≤ (j : Int) := by omega
    have hj2 : ¬ (l.length : Int) ≤ (j : Int) := by omega
    have hj3 : ¬ (j : Int) < 0 := by omega
    gi_wp2_with (first | (refine ⟨trivial, ?_⟩; gi_at_call 11; ((with_reducible refine (callsIn_wide.2 (HPT _)).mono ?_); rintro e w7 ⟨rfl, m, rfl⟩; have hI7 := hIs.on (below_drewN (Below.refl _ _) m) (by omega))) | (refine ⟨trivial, ?_⟩; gi_at_call 8; ((with_reducible refine (callsIn_wide.2 (list_at2 x l XS UX (by omega) _)).mono ?_); rintro e w8 ⟨g8, cap8, rfl, hn8, hc8, hb8⟩; have hI8 := hI7.on hb8 (by omega); have hc9 : (j : Int) ≤ (cap8 : Int) := (by omega); have hc10 : ¬ cap8 = j := (by omega))) | (refine ⟨trivial, ?_⟩; gi_at_call 7; ((with_reducible refine (callsIn_wide.2 (refSigns_first _ _ _ (l.drop j) [u, v] _ (by omega) (fun u hu => HL.out u (List.mem_of_mem_drop hu)) HS2 _ (nums_from hn8 j (by omega)))).mono ?_); rintro e w9 ⟨b9, g9, len9, cap9, rfl, hl9, hc91, hc92, hb9⟩; have hI9 := hI8.on hb9 (by omega); obtain ⟨hr9, hf9, -⟩ := LoopI.parts hI9; have hc93 : w9.cell? ⟨g9, 0, none⟩ = some (.int .i64 (u : Int)) := hc92 0 (by simp); have hc94 : w9.cell? ⟨g9, 1, none⟩ = some (.int .i64 (v : Int)) := hc92 1 (by simp))))
    gi_region
    all_goals gi_wp2
    all_goals
      have hK8 : w8.heap[D]? = some (.deferred (some [])) := (hb8.block D hDl).trans hK
      have hK9 : w9.heap[D]? = some (.deferred (some [])) := (hb9.block D (Array.getElem?_eq_some_iff.1 hK8).1).trans hK8
      exact fin_ret (W := w9.drew) rfl hr9 hK9 (by omega) (Below.drew hI9.bel)

  case stop =>
    rintro D c pre W hD hpre hx _
    exact (LoopX.none hx (by rw [← SX.out]; exact hpre)).elim
end Go.Proofs.Ytbkgophgclpijaa
