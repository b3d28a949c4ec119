/- TextSigns: contracts in the spelling that the law's walk asks for. -/
import Derived.Test.YtbkgophgclpijaaSc
import Derived.Test.YtbkgophgclpijaaSd
import Derived.RangeFuncFrom
namespace Go.Proofs.Ytbkgophgclpijaa
open Go Go.RowKit
attribute [local go_sem] Oper.semAt_some

theorem point_out (s : ByteArray) (hs : s.size ≤ 16777216) (i : Int) (hi : i < 0 ∨ (s.size : Int) / 2 ≤ i) (w : World) :
    Calls Try.prog 11 #[.string s, .int .i64 i] w fun e w' => e = .returned (.tuple #[.int .i32 0, .int .i64 0]) ∧ w = w' := by
  rcases hi with hi | hi
  · go_enter Try.func11, Try.ntmps11
    go_wp2_with (first | (go_at_call 16; ((with_reducible refine (len_any _ hs _).mono ?_); rintro e w' ⟨rfl, rfl⟩)))
    go_ret2
    exact ⟨rfl, rfl⟩
  · have h0 : ¬ i < 0 := by omega
    go_enter Try.func11, Try.ntmps11
    go_wp2_with (first | (go_at_call 16; ((with_reducible refine (len_any _ hs _).mono ?_); rintro e w' ⟨rfl, rfl⟩)))
    go_ret2
    exact ⟨rfl, rfl⟩
theorem old_cells {W w1 : World} (hb : Below W.heap.size W w1) : (∀ b o, b < W.heap.size → w1.cell? ⟨b, o, none⟩ = W.cell? ⟨b, o, none⟩) ∧ (∀ b o, b < W.heap.size → w1.frozen? ⟨b, o, none⟩ = W.frozen? ⟨b, o, none⟩) :=
  ⟨fun b o h => hb.cell (p := ⟨b, o, none⟩) h, fun b o h => hb.frozen (p := ⟨b, o, none⟩) h⟩
theorem lawStr_at (a : Option Addr) (n cap : Nat) (l : List Nat) (x : ByteArray) (hn : n ≤ 1000000) (hlt : ∀ u ∈ l, u < 65536) (hx : Veil (strU l = x)) (w : World) (h : Nums .u16 w a n l) :
    Calls Try.prog 6 #[.slice a n cap] w fun e w' => e = .returned (.string x) ∧ Below w.heap.size w w' :=
  (lawStr_any a n cap l hn hlt w h).mono fun _ _ he => ⟨by rw [← hx.out]; exact he.1, he.2⟩
theorem str_at (a : Option Addr) (n cap : Nat) (l : List Nat) (x : ByteArray) (hn : n ≤ 1000000) (hlt : ∀ u ∈ l, u < 65536) (hx : Veil (strU l = x)) (w : World) (h : Nums .i64 w a n l) :
    Calls Try.prog 10 #[.slice a n cap] w fun e w' => e = .returned (.string x) ∧ Below w.heap.size w w' :=
  (str_any a n cap l hn hlt w h).mono fun _ _ he => ⟨by rw [← hx.out]; exact he.1, he.2⟩
def ListPost (B : Nat) (w : World) (l : List Nat) (e : Ending) (w' : World) : Prop := ∃ a cap, e = .returned (.slice a l.length cap) ∧ Nums .i64 w' a l.length l ∧ (a = none → l.length = 0) ∧ l.length ≤ cap ∧ Below B w w'
theorem list_at (x : ByteArray) (l : List Nat) (hs : x.size ≤ 1000000) (hx : Veil (unitsS x = l)) (w : World) :
    Calls Try.prog 8 #[.string x] w (ListPost w.heap.size w l) :=
  (list_any x hs w).mono fun e w' ⟨v, he, hown, hb⟩ => by
    rw [hx.out] at hown
    rcases hown.2 with ⟨rfl, h0⟩ | ⟨g, cap, cur, rfl, hB, hg, hc, -, -, -⟩
    · exact ⟨none, 0, by rw [h0]; exact he, ⟨rfl, fun hn => by omega⟩, fun _ => h0, by omega, hb⟩
    · obtain ⟨a, cap', e', hn⟩ := own_nums hown
      cases e'
      exact ⟨_, _, he, hn, (fun (h : some _ = none) => nomatch h), hc, hb⟩

/-- The row of slices that want holds, read in a world: all of it lies from lo on and below hi. -/
def RowsAt (lo hi : Nat) (W : World) (v : Value) (S : List (List Nat)) : Prop :=
  ∃ a cap, v = .slice a S.length cap ∧ ∀ (j : Nat) us, S[j]? = some us → ∃ b g, a = some ⟨b, 0, none⟩ ∧ lo ≤ b ∧ b < hi ∧ lo ≤ g ∧ g < hi ∧ W.cell? ⟨b, j, none⟩ = some (.slice (some ⟨g, 0, none⟩) us.length us.length) ∧ ∀ i, i < us.length → W.cell? ⟨g, i, none⟩ = some (.int .i64 ((us[i]?.getD 0 : Nat) : Int))
theorem RowsAt.kept {lo hi : Nat} {W W' : World} {v : Value} {S : List (List Nat)} (h : RowsAt lo hi W v S) (hk : ∀ b o, lo ≤ b → b < hi → W'.cell? ⟨b, o, none⟩ = W.cell? ⟨b, o, none⟩) : RowsAt lo hi W' v S := by
  obtain ⟨a, cap, hv, h⟩ := h
  refine ⟨a, cap, hv, fun j us hj => ?_⟩
  obtain ⟨b, g, h1, h2, h3, h4, h5, h6, h7⟩ := h j us hj
  exact ⟨b, g, h1, h2, h3, h4, h5, by rw [hk b j h2 h3]; exact h6, fun i hi => by rw [hk g i h4 h5]; exact h7 i hi⟩
theorem RowsAt.grows {lo hi : Nat} {W W' : World} {v : Value} {S : List (List Nat)} (h : RowsAt lo hi W v S) {row : Option Nat} (hg : W.grownBy W' row) (hr : ∀ r, row = some r → ∃ o : Obj, W.heap[r]? = some o ∧ o.isCells = false) : RowsAt lo hi W' v S := by
  obtain ⟨a, cap, hv, h⟩ := h
  refine ⟨a, cap, hv, fun j us hj => ?_⟩
  obtain ⟨b, g, h1, h2, h3, h4, h5, h6, h7⟩ := h j us hj
  exact ⟨b, g, h1, h2, h3, h4, h5, cell_kept h6 hg hr, fun i hi => cell_kept (h7 i hi) hg hr⟩
theorem RowsAt.of {lo : Nat} {w' : World} {v : Value} {S : List (List Nat)} {xs : List Value} (hown : w'.ownsRow lo 27 1 v S.length xs) (hs : SignsAt lo w' xs S) : RowsAt lo w'.heap.size w' v S := by
  rcases hown.2 with ⟨rfl, h0⟩ | ⟨b, cap, cur, rfl, hB, hb, hc, -, -, -⟩
  · refine ⟨none, 0, by rw [h0], fun j us hj => ?_⟩
    have := (List.getElem?_eq_some_iff.1 hj).1
    omega
  · refine ⟨_, cap, rfl, fun j us hj => ?_⟩
    obtain ⟨g, fr, h1, h2, h3⟩ := hs.2 j us hj
    refine ⟨b, g, rfl, hB, (Array.getElem?_eq_some_iff.1 hb).1, h2, (Array.getElem?_eq_some_iff.1 h3).1, ?_, fun i hi => ?_⟩
    · have := hown.cells (g := b) rfl j _ h1
      have e : (⟨b, 0, none⟩ : Addr).add j = ⟨b, j, none⟩ := by unfold Addr.add; split <;> simp_all
      rwa [e] at this
    · rw [cell_of_row w' g i _ _ _ h3]
      unfold numC; rw [List.getElem?_toArray, List.getElem?_map, List.getElem?_eq_getElem hi]; rfl
def SignsPost2 (B : Nat) (w : World) (S : List (List Nat)) (e : Ending) (w' : World) : Prop := ∃ va vc, e = .returned (.slice va S.length vc) ∧ RowsAt B w'.heap.size w' (.slice va S.length vc) S ∧ Below B w w'
theorem refSigns_at (a : Option Addr) (n cap : Nat) (l : List Nat) (S : List (List Nat)) (hn : n ≤ 1000000) (hlt : ∀ u ∈ l, u < 65536) (hS : Veil (signs l = S)) (w : World) (h : Nums .i64 w a n l) :
    Calls Try.prog 7 #[.slice a n cap] w (SignsPost2 w.heap.size w S) :=
  (refSigns_any a n cap l hn hlt w h).mono fun e w' ⟨v, xs, he, hown, hsg, hb⟩ => by
    rw [hS.out] at hown hsg
    have hR := RowsAt.of hown hsg
    obtain ⟨va, vc, rfl, -⟩ := id hR
    exact ⟨va, vc, he, hR, hb⟩
theorem RowsAt.nums {lo hi : Nat} {W : World} {v : Value} {S : List (List Nat)} (h : RowsAt lo hi W v S) (hhi : hi ≤ W.heap.size) (j : Nat) (us : List Nat) (hj : S[j]? = some us) :
    ∃ b g cap, v = .slice (some ⟨b, 0, none⟩) S.length cap ∧ W.cell? ⟨b, j, none⟩ = some (.slice (some ⟨g, 0, none⟩) us.length us.length) ∧ Nums .i64 W (some ⟨g, 0, none⟩) us.length us := by
  obtain ⟨a, cap, hv, h⟩ := h
  obtain ⟨b, g, h1, h2, h3, h4, h5, h6, h7⟩ := h j us hj
  subst h1
  exact ⟨b, g, cap, hv, h6, rfl, fun _ => ⟨g, 0, rfl, by omega, fun i hi => by rw [Nat.zero_add]; exact h7 i hi⟩⟩

set_option maxRecDepth 100000 in
set_option maxHeartbeats 4000000 in
theorem signs_long (n : Nat) (hn : 4 ≤ n) (a : Option Addr) (len ca : Nat) (i : Int) (hlen : 3000 < len) (w : World) :
    CallsIn Fence.wide n Try.prog 3 #[.slice a len ca, .int .i64 i] w fun e w' => e = .returned (.bool true) ∧ Below w.heap.size w w' := by
  have g1 : (3000 : Int) < (len : Int) := by omega
  have h1 : 1 ≤ n := by omega
  refine callsIn_of_wp Try.func3 rfl trivial ?_ rfl
  simp only [Try.ntmps3, List.size_toArray, List.length_cons, List.length_nil, Nat.reduceAdd, Nat.reduceSub, Array.replicate_succ, Array.replicate_zero, List.push_toArray, List.append_toArray, List.nil_append, List.cons_append]
  gi_wp2_with (first | (refine ⟨trivial, ?_⟩; gi_at_call 5; refine (callsIn_wide.2 (fit_any _)).mono ?_; rintro e w1 ⟨rfl, hb1⟩; obtain ⟨hc1, hf1⟩ := old_cells hb1))
  have hB : Below w.heap.size w (w1.setCell ⟨w.heap.size, 0, none⟩ (.bool true)) := (((Below.refl _ w).alloc (Nat.le_refl _) _).trans (hb1.mono (by simp))).setCell (Nat.le_refl _) _
  have hc5 : (w1.setCell ⟨w.heap.size, 0, none⟩ (.bool true)).cell? ⟨w.heap.size, 0, none⟩ = some (.bool true) := World.cell?_setCell_same' _ _ _ (by rw [hc1 _ _ (by simp)]; go_simp)
  exact bodyPost_ret (v := .bool true) (by simp [results, Try.f3, go_sem, hc5]) rfl ⟨rfl, hB⟩
end Go.Proofs.Ytbkgophgclpijaa
