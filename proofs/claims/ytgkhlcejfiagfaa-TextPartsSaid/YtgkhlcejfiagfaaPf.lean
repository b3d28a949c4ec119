/- TextParts: the walk. -/
import Derived.Test.YtgkhlcejfiagfaaPe
import Derived.Deep.RegionHeld3
import Derived.Deep.DeepCutAuto
namespace Go.Proofs.Ytgkhlcejfiagfaa
open Go.RowKit

theorem lawStr_at (a : Option Addr) (n cap : Nat) (l : List Nat) (x : ByteArray) (hn : n ≤ 1000000) (hlt : ∀ u ∈ l, u < 65536) (hx : Veil (strU l = x)) (w : World) (h : Nums .u16 w a n l) :
    Calls Try.prog 10 #[.slice a n cap] w fun e w' => e = .returned (.string x) ∧ Below w.heap.size w w' :=
  (lawStr_any a n cap l hn hlt w h).mono fun _ _ he => ⟨by rw [← hx.out]; exact he.1, he.2⟩
theorem list_at (x : ByteArray) (l : List Nat) (hs : x.size ≤ 1000000) (hx : Veil (unitsS x = l)) (w : World) :
    Calls Try.prog 12 #[.string x] w fun e w' => ∃ p c, e = .returned (.slice p l.length c) ∧ Nums .i64 w' p l.length l ∧ Below w.heap.size w w' :=
  (list_any x hs w).mono fun _ w' ⟨v, he, ho, hb⟩ => by
    rw [hx.out] at ho
    obtain ⟨p, c, rfl, hn⟩ := own_nums ho
    exact ⟨p, c, he, hn, hb⟩

theorem refCmp_at (a b : Option Addr) (n m ca cb : Nat) (l r : List Nat) (c : Int) (hn : n ≤ 1000000) (hm : m ≤ 1000000) (hl : ∀ u ∈ l, u < 65536) (hr : ∀ u ∈ r, u < 65536) (hc : Veil (cmpU l r = c)) (w : World) (h1 : Nums .i64 w a n l) (h2 : Nums .i64 w b m r) :
    Calls Try.prog 21 #[.slice a n ca, .slice b m cb] w fun e w' => e = .returned (.int .i64 c) ∧ Below w.heap.size w w' :=
  (refCompare_any a b n m ca cb l r hn hm hl hr w h1 h2).mono fun _ _ he => ⟨by rw [← hc.out]; exact he.1, he.2⟩
theorem nums_sub {kd : IntKind} {w : World} {bk ok n f t : Nat} {sk : Option Nat} {l : List Nat} (h : Nums kd w (some ⟨bk, ok, sk⟩) n l) (hft : f ≤ t) (htn : t ≤ n) : Nums kd w (some ((⟨bk, ok, sk⟩ : Addr).add f)) (t - f) ((l.drop f).take (t - f)) := by
  have hl := h.1
  refine ⟨by rw [List.length_take, List.length_drop]; omega, fun h0 => ?_⟩
  obtain ⟨b, o, e, hlt, hc⟩ := h.2 (by omega)
  cases e
  refine ⟨bk, ok + f, by simp [Addr.add], hlt, fun i hi => ?_⟩
  have := hc (f + i) (by omega)
  rw [show ok + f + i = ok + (f + i) by omega, this, List.getElem?_take, if_pos hi, List.getElem?_drop]
theorem refIdx_at (a : Option Addr) (n ca : Nat) (l : List Nat) (q : Int) (hn : n ≤ 1000000) (hl : ∀ u ∈ l, u < 65536) (hq : Veil (idxU l = q)) (w : World) (h1 : Nums .i64 w a n l) :
    Calls Try.prog 24 #[.slice a n ca] w fun e w' => e = .returned (.int .i64 q) ∧ Below w.heap.size w w' :=
  (refIndex_any a n ca l hn hl w h1).mono fun _ _ he => ⟨by rw [← hq.out]; exact he.1, he.2⟩
theorem nums_zero {kd : IntKind} {w : World} {a a' : Option Addr} {n f t k : Nat} {l : List Nat} (h : Nums kd w a n l) (htf : t = f) (htn : t ≤ n) (hk : k = 0) : Nums kd w a' k ((l.drop f).take (t - f)) := by
  have hl := h.1
  exact ⟨by rw [List.length_take, List.length_drop]; omega, fun h0 => absurd h0 (by omega)⟩
/-- What stays on the way. -/
structure Sit (w : World) (a b : Option Addr) (n m : Nat) (l r : List Nat) (i j : Int) (wk : World) : Prop where
  n1 : Nums .u16 wk a n l
  n2 : Nums .u16 wk b m r
  c0 : wk.cell? ⟨w.heap.size, 0, none⟩ = some (.int .i64 i)
  c1 : wk.cell? ⟨w.heap.size, 1, none⟩ = some (.int .i64 j)
  lt : w.heap.size < wk.heap.size
  b : Below w.heap.size w wk
theorem Sit.on {w : World} {a b : Option Addr} {n m : Nat} {l r : List Nat} {i j : Int} {wk w' : World} (h : Sit w a b n m l r i j wk) (hb : Below wk.heap.size wk w') : Sit w a b n m l r i j w' :=
  ⟨h.n1.on hb, h.n2.on hb, (hb.cell (p := (⟨w.heap.size, 0, none⟩ : Addr)) h.lt).trans h.c0, (hb.cell (p := (⟨w.heap.size, 1, none⟩ : Addr)) h.lt).trans h.c1, Nat.lt_of_lt_of_le h.lt hb.size, h.b.trans (hb.mono h.b.size)⟩
theorem Sit.mk0 {w : World} {a b : Option Addr} {n m : Nat} {l r : List Nat} {i j : Int} (h1 : Nums .u16 w a n l) (h2 : Nums .u16 w b m r) (t : TypeId) : Sit w a b n m l r i j (w.alloc (.cells #[.int .i64 i, .int .i64 j] t)) := by
  have hB : Below w.heap.size w (w.alloc (.cells #[.int .i64 i, .int .i64 j] t)) := (Below.refl w.heap.size w).alloc (Nat.le_refl _) _
  have hc := cells_new w [.int .i64 i, .int .i64 j] t
  exact ⟨h1.on hB, h2.on hB, hc 0 _ rfl, hc 1 _ rfl, by simp, hB⟩

set_option maxRecDepth 1000000 in
set_option maxHeartbeats 2000000 in
theorem parts_any (a b : Option Addr) (n m ca cb : Nat) (l r : List Nat) (i j : Int) (hca : n ≤ ca) (hno : a = none → ca = 0) (hl : ∀ u ∈ l, u < 65536) (hr : ∀ u ∈ r, u < 65536) (w : World) (h1 : Nums .u16 w a n l) (h2 : Nums .u16 w b m r) :
    Calls Try.prog 5 #[.slice a n ca, .slice b m cb, .agg #[.int .i64 i, .int .i64 j]] w fun e w' => e = .returned (.bool true) ∧ Below w.heap.size w w' := by
  by_cases ha : 3000 < n
  · have hai : (3000 : Int) < (n : Int) := by omega
    go_enter Try.func5, Try.ntmps5
    go_wp2_with (first | (go_at_call 9; ((with_reducible refine (fit_any _).mono ?_); rintro e w1 ⟨rfl, hb1⟩)))
    go_ret
    exact ⟨rfl, ((Below.refl w.heap.size w).alloc (Nat.le_refl _) _).trans (hb1.mono (by simp))⟩
  have hai : ¬ (3000 : Int) < (n : Int) := by omega
  by_cases hb : 3000 < m
  · have hbi : (3000 : Int) < (m : Int) := by omega
    go_enter Try.func5, Try.ntmps5
    go_wp2_with (first | (go_at_call 9; ((with_reducible refine (fit_any _).mono ?_); rintro e w1 ⟨rfl, hb1⟩)))
    go_ret
    exact ⟨rfl, ((Below.refl w.heap.size w).alloc (Nat.le_refl _) _).trans (hb1.mono (by simp))⟩
  have hbi : ¬ (3000 : Int) < (m : Int) := by omega
  have hln := h1.1
  have hrm := h2.1
  obtain ⟨x, hx⟩ : ∃ x, x = strU l := ⟨_, rfl⟩
  obtain ⟨y, hy⟩ : ∃ y, y = strU r := ⟨_, rfl⟩
  have HX := Veil.mk hx.symm
  have HY := Veil.mk hy.symm
  have hxs : x.size = 2 * n := by rw [hx, strU_size, hln]
  have hys : y.size = 2 * m := by rw [hy, strU_size, hrm]
  have UX : Veil (unitsS x = l) := ⟨by rw [hx]; exact strU_units l hl⟩
  have UY : Veil (unitsS y = r) := ⟨by rw [hy]; exact strU_units r hr⟩
  have CM : Hid (Lib.compareBytes x.data.toList y.data.toList = cmpU l r) := by
    show _ = _; rw [hx, hy]; exact cmp_flat l r hl hr
  obtain ⟨c, hc⟩ : ∃ c, c = cmpU l r := ⟨_, rfl⟩
  have CE := Veil.mk hc.symm
  rw [← hc] at CM
  obtain ⟨q, hq⟩ : ∃ q, q = idxU l := ⟨_, rfl⟩
  have QX := Veil.mk hq.symm
  have IX : Hid (idxU (unitsS x) = q) := by show _ = _; rw [UX.out]; exact hq.symm
  clear hq
  obtain ⟨t, ht⟩ : ∃ t : Nat, (t : Int) = min (max j 0) (n : Int) := ⟨(min (max j 0) (n : Int)).toNat, by omega⟩
  obtain ⟨f, hf⟩ : ∃ f : Nat, (f : Int) = min (max i 0) (t : Int) := ⟨(min (max i 0) (t : Int)).toNat, by omega⟩
  have hft : f ≤ t := by omega
  have htn : t ≤ n := by omega
  obtain ⟨z, hz⟩ : ∃ z, z = strU ((l.drop f).take (t - f)) := ⟨_, rfl⟩
  have SZ : Hid (subB x i j = z) := by show _ = _; rw [hx, hz]; exact strU_sub l i j f t (by rw [hln]; exact ht) hf
  have HZ := Veil.mk hz.symm
  have HL := Veil.mk hl
  have HR := Veil.mk hr
  have HLZ : Veil (∀ u ∈ (l.drop f).take (t - f), u < 65536) := ⟨fun u hu => hl u (List.mem_of_mem_drop (List.mem_of_mem_take hu))⟩
  have S0 : Sit w a b n m l r i j (w.alloc (.cells #[.int .i64 i, .int .i64 j] 37)) := Sit.mk0 h1 h2 _
  have g1 : (if (n : Int) < (if j < 0 then 0 else j) then (n : Int) else if j < 0 then 0 else j) = (t : Int) := by rw [ht]; split <;> split <;> omega
  have g2 : (if (t : Int) < (if i < 0 then 0 else i) then (t : Int) else if i < 0 then 0 else i) = (f : Int) := by rw [hf]; split <;> split <;> omega
  have hT : min (max j 0) (n : Int) = (t : Int) := ht.symm
  have hF : min (max i 0) (t : Int) = (f : Int) := hf.symm
  have s1 : (0 : Int) ≤ (f : Int) := by omega
  have s2 : (f : Int) ≤ (t : Int) := by omega
  have s3 : (t : Int) ≤ (ca : Int) := by omega
  have z1 : x.size ≤ 16777216 := by omega
  have z2 : y.size ≤ 16777216 := by omega
  have z3 : x.size / 2 + y.size / 2 ≤ 65536 := by omega
  have XS : x.size ≤ 1000000 := by omega
  have YS : y.size ≤ 1000000 := by omega
  have z4 : n ≤ 1000000 := by omega
  have z5 : m ≤ 1000000 := by omega
  have hj := join_in x y z1 z2 z3
  have z6 : ¬ (9223372036854775807 : Int) < (x.size : Int) + (y.size : Int) := by omega
  have LN : Veil (l.length = n) := ⟨hln⟩
  have RM : Veil (r.length = m) := ⟨hrm⟩
  clear hx hy hz hc ht hf h1 h2 hl hr hxs hys hln hrm z3
  go_enter Try.func5, Try.ntmps5
  go_wp2_with (first | (go_at_call 9; ((with_reducible refine (fit_any _).mono ?_); rintro e w1 ⟨rfl, hb1⟩; replace hb1 := Veil.mk (S0.on hb1))) | (go_at_call 10; first | ((with_reducible refine (lawStr_at a n _ l x z4 HL.out HX _ hb1.out.n1).mono ?_); rintro e w2 ⟨rfl, hb2⟩; replace hb2 := Veil.mk (hb1.out.on hb2)) | ((with_reducible refine (lawStr_at b m _ r y z5 HR.out HY _ hb2.out.n2).mono ?_); rintro e w3 ⟨rfl, hb3⟩; replace hb3 := Veil.mk (hb2.out.on hb3))) | (go_at_call 19; ((with_reducible refine (hj _).mono ?_); rintro e w' ⟨rfl, rfl⟩)) | (go_at_call 20; ((with_reducible refine (compare_at x y _ CM _).mono ?_); rintro e w' ⟨rfl, rfl⟩)) | (go_at_call 12; first | ((with_reducible refine (list_at x l XS UX _).mono ?_); rintro e w4 ⟨p1, k1, rfl, m1, hb4⟩) | ((with_reducible refine (list_at y r YS UY _).mono ?_); rintro e w5 ⟨p2, k2, rfl, m2, hb5⟩)) | (go_at_call 21; ((with_reducible refine (refCmp_at p1 p2 _ _ k1 k2 l r c (by rw [LN.out]; exact z4) (by rw [RM.out]; exact z5) HL.out HR.out CE _ (m1.on hb5) m2).mono ?_); rintro e w6 ⟨rfl, hb6⟩; replace hb6 := Veil.mk (((hb3.out.on hb4).on hb5).on hb6); have bc0 := hb6.out.c0; have bc1 := hb6.out.c1)))
  have hb6d := Veil.mk (hb6.out.on (Below.refl _ _).drew)
  rcases a with _ | ⟨bk, ok, sk⟩
  · have hn0 : n = 0 := by
      rcases Nat.eq_zero_or_pos n with h0 | h0
      · exact h0
      · obtain ⟨_, _, e, _⟩ := hb6.out.n1.2 h0
        cases e
    have htf : t = f := by omega
    have hcf : ca = f := by have := hno rfl; omega
    clear hn0 hno
    go_region_held3 (fun w' => w'.cell? ⟨w.heap.size, 0, none⟩ = some (.int .i64 i) ∧ w'.cell? ⟨w.heap.size, 1, none⟩ = some (.int .i64 j)) (first | exact ⟨hb10.out.c0, hb10.out.c1⟩ | exact ⟨hb9.out.c0, hb9.out.c1⟩ | exact ⟨hb8.out.c0, hb8.out.c1⟩ | exact ⟨hb7.out.c0, hb7.out.c1⟩ | go_keep)
      (first | (go_at_call 22; ((with_reducible refine (sub_at x z i j z1 SZ _).mono ?_); rintro e w' ⟨rfl, rfl⟩)) | (go_at_call 10; ((with_reducible refine (lawStr_at _ _ _ (List.take (t - f) (List.drop f l)) z (by omega) HLZ.out HZ _ (nums_zero hb6d.out.n1 htf htn (by omega))).mono ?_); rintro e w7 ⟨rfl, hb7⟩; replace hb7 := Veil.mk (hb6d.out.on hb7))) | (go_at_call 23; ((with_reducible refine (index_at x q z1 IX _).mono ?_); rintro e w8 ⟨rfl, hb8⟩; replace hb8 := Veil.mk (hb7.out.on hb8))) | (go_at_call 12; ((with_reducible refine (list_at x l XS UX _).mono ?_); rintro e w9 ⟨p3, k3, rfl, m3, hb9⟩; replace hb9 := Veil.mk (Sit.on hb8.out hb9))) | (go_at_call 24; ((with_reducible refine (refIdx_at p3 _ k3 l q (by rw [LN.out]; exact z4) HL.out QX _ m3).mono ?_); rintro e w10 ⟨rfl, hb10⟩; replace hb10 := Veil.mk (hb9.out.on hb10))))
    go_wp2
    go_ret
    exact ⟨rfl, hb10.out.b⟩
  · by_cases hcf : ca = f
    · have htf : t = f := by omega
      go_region_held3 (fun w' => w'.cell? ⟨w.heap.size, 0, none⟩ = some (.int .i64 i) ∧ w'.cell? ⟨w.heap.size, 1, none⟩ = some (.int .i64 j)) (first | exact ⟨hb10.out.c0, hb10.out.c1⟩ | exact ⟨hb9.out.c0, hb9.out.c1⟩ | exact ⟨hb8.out.c0, hb8.out.c1⟩ | exact ⟨hb7.out.c0, hb7.out.c1⟩ | go_keep)
        (first | (go_at_call 22; ((with_reducible refine (sub_at x z i j z1 SZ _).mono ?_); rintro e w' ⟨rfl, rfl⟩)) | (go_at_call 10; ((with_reducible refine (lawStr_at _ _ _ (List.take (t - f) (List.drop f l)) z (by omega) HLZ.out HZ _ (nums_zero hb6d.out.n1 htf htn (by omega))).mono ?_); rintro e w7 ⟨rfl, hb7⟩; replace hb7 := Veil.mk (hb6d.out.on hb7))) | (go_at_call 23; ((with_reducible refine (index_at x q z1 IX _).mono ?_); rintro e w8 ⟨rfl, hb8⟩; replace hb8 := Veil.mk (hb7.out.on hb8))) | (go_at_call 12; ((with_reducible refine (list_at x l XS UX _).mono ?_); rintro e w9 ⟨p3, k3, rfl, m3, hb9⟩; replace hb9 := Veil.mk (Sit.on hb8.out hb9))) | (go_at_call 24; ((with_reducible refine (refIdx_at p3 _ k3 l q (by rw [LN.out]; exact z4) HL.out QX _ m3).mono ?_); rintro e w10 ⟨rfl, hb10⟩; replace hb10 := Veil.mk (hb9.out.on hb10))))
      go_wp2
      go_ret
      exact ⟨rfl, hb10.out.b⟩
    · go_region_held3 (fun w' => w'.cell? ⟨w.heap.size, 0, none⟩ = some (.int .i64 i) ∧ w'.cell? ⟨w.heap.size, 1, none⟩ = some (.int .i64 j)) (first | exact ⟨hb10.out.c0, hb10.out.c1⟩ | exact ⟨hb9.out.c0, hb9.out.c1⟩ | exact ⟨hb8.out.c0, hb8.out.c1⟩ | exact ⟨hb7.out.c0, hb7.out.c1⟩ | go_keep)
        (first | (go_at_call 22; ((with_reducible refine (sub_at x z i j z1 SZ _).mono ?_); rintro e w' ⟨rfl, rfl⟩)) | (go_at_call 10; ((with_reducible refine (lawStr_at _ _ _ _ z (by omega) HLZ.out HZ _ (nums_sub hb6d.out.n1 hft htn)).mono ?_); rintro e w7 ⟨rfl, hb7⟩; replace hb7 := Veil.mk (hb6d.out.on hb7))) | (go_at_call 23; ((with_reducible refine (index_at x q z1 IX _).mono ?_); rintro e w8 ⟨rfl, hb8⟩; replace hb8 := Veil.mk (hb7.out.on hb8))) | (go_at_call 12; ((with_reducible refine (list_at x l XS UX _).mono ?_); rintro e w9 ⟨p3, k3, rfl, m3, hb9⟩; replace hb9 := Veil.mk (Sit.on hb8.out hb9))) | (go_at_call 24; ((with_reducible refine (refIdx_at p3 _ k3 l q (by rw [LN.out]; exact z4) HL.out QX _ m3).mono ?_); rintro e w10 ⟨rfl, hb10⟩; replace hb10 := Veil.mk (hb9.out.on hb10))))
      go_wp2
      go_ret
      exact ⟨rfl, hb10.out.b⟩
end Go.Proofs.Ytgkhlcejfiagfaa
