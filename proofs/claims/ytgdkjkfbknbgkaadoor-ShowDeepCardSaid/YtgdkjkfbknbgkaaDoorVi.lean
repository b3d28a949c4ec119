/- ShowDeep: the law's walk. -/
import Derived.Test.YtgdkjkfbknbgkaaDoorVh
namespace Go.Proofs.YtgdkjkfbknbgkaaDoor
open Go Go.RowKit

abbrev arO (p : Int) (ev : Value) : Array Value := objC 1 p false (.pointer none) ev
/-- A five within so many arrays; each array's row lies behind block vb. -/
def Nest (W : World) (vb : Nat) (p : Int) (os : List OS) : Nat → Vt → Prop
  | 0, v => v = ((3, 5, ⟨#[]⟩) : Vt)
  | d + 1, v => ∃ v' i b ev, Nest W vb p os d v' ∧ v = ((9, ((i : Nat) : Int) + 1, ⟨#[]⟩) : Vt) ∧ os[i]? = some (b, arO p ev) ∧ RowV W ev [v'] ∧ ∀ ad n cap, ev = .slice (some ad) n cap → vb < ad.block
theorem Nest.more {W W' : World} {vb : Nat} {p : Int} {os os' : List OS} (hk : ∀ ev l, RowV W ev l → (∀ ad n cap, ev = .slice (some ad) n cap → vb < ad.block) → RowV W' ev l) (ho : ∀ (i : Nat) (o : OS), os[i]? = some o → os'[i]? = some o) : ∀ d v, Nest W vb p os d v → Nest W' vb p os' d v
  | 0, _, h => h
  | d + 1, _, ⟨v', i, b, ev, h1, h2, h3, h4, h5⟩ => ⟨v', i, b, ev, Nest.more hk ho d v' h1, h2, ho _ _ h3, hk _ _ h4 h5, h5⟩
def wantS : Nat → Nat → ByteArray
  | _, 0 => ⟨#[53]⟩
  | 0, _ + 1 => ⟨#[91, 46, 46, 93]⟩
  | k + 1, d + 1 => arrS [wantS k d]
theorem Nest.arr {W : World} {h A m vb : Nat} {f : Nat → Int} {os : List OS} (H : MM W h A m f os) (d : Nat) (v : Vt) (hn : Nest W vb (f 2) os (d + 1) v) : ∃ v', Nest W vb (f 2) os d v' ∧ ArrAt W h v [v'] := by
  obtain ⟨v', i, b, ev, h1, rfl, h3, h4, -⟩ := hn
  exact ⟨v', h1, H.arrAt i b _ h3 rfl ev rfl _ h4 (by show 1 ≤ 1000000; omega) _⟩
theorem Nest.shown {W : World} {h A m vb : Nat} {f : Nat → Int} {os : List OS} (H : MM W h A m f os) : ∀ (k d : Nat) (v : Vt), k ≤ 3 → d ≤ 8 → Nest W vb (f 2) os d v → Shown W m h k v (wantS k d) := by
  intro k
  induction k with
  | zero =>
    intro d v _ hd hn
    cases d with
    | zero => rw [show v = _ from hn]; exact shown_leaf leaf_5
    | succ d =>
      obtain ⟨v', h1, h2⟩ := Nest.arr H d v hn
      exact .inr ⟨⟨_, h2⟩, rfl⟩
  | succ k ih =>
    intro d v hk hd hn
    cases d with
    | zero => rw [show v = _ from hn]; exact shown_leaf leaf_5
    | succ d =>
      obtain ⟨v', h1, h2⟩ := Nest.arr H d v hn
      have hs : ∀ k, k < 3 → ∀ d, d < 8 → (wantS k d).size ≤ 1000 := by decide +kernel
      exact shown_arr1 h2 (ih d v' (by omega) (by omega) h1) (hs k (by omega) d (by omega)) rfl
/-- What the law's loop makes. -/
def wantL (n : Nat) : Nat → ByteArray
  | 0 => if 3 < n then ⟨#[91, 46, 46, 93]⟩ else ⟨#[53]⟩
  | j + 1 => ⟨#[91]⟩ ++ wantL n j ++ ⟨#[93]⟩
theorem want_eq : ∀ n, n < 8 → wantL n (min n 3) = wantS 3 n := by decide +kernel
theorem wantL_size : ∀ n, n < 8 → ∀ j, j < 4 → (wantL n j).size ≤ 1000 := by decide +kernel
def circS : ByteArray := ⟨#[91, 91, 91, 91, 46, 46, 93, 44, 32, 44, 32, 117, 110, 100, 101, 102, 105, 110, 101, 100, 93, 44, 32, 44, 32, 117, 110, 100, 101, 102, 105, 110, 101, 100, 93, 44, 32, 44, 32, 117, 110, 100, 101, 102, 105, 110, 101, 100, 93]⟩
theorem circ_shown {W : World} {m h : Nat} {v : Vt} (ha : ArrAt W h v [v, (10, 0, ⟨#[]⟩), (0, 0, ⟨#[]⟩)]) : Shown W m h 3 v circS := by
  have h0 : Shown W m h 0 v ⟨#[91, 46, 46, 93]⟩ := .inr ⟨⟨_, ha⟩, rfl⟩
  have le : ∀ k, Shown W m h k (10, 0, ⟨#[]⟩) ⟨#[]⟩ := fun k => shown_leaf fun mv av w => within_empty w mv av _ rfl
  have lu : ∀ k, Shown W m h k (0, 0, ⟨#[]⟩) ⟨#[117, 110, 100, 101, 102, 105, 110, 101, 100]⟩ := fun k => shown_leaf leaf_u
  have h1 := shown_arr3 ha h0 (le 0) (lu 0) (r := ⟨#[91, 91, 46, 46, 93, 44, 32, 44, 32, 117, 110, 100, 101, 102, 105, 110, 101, 100, 93]⟩) (by decide +kernel) (by decide +kernel)
  have h2 := shown_arr3 ha h1 (le 1) (lu 1) (r := ⟨#[91, 91, 91, 46, 46, 93, 44, 32, 44, 32, 117, 110, 100, 101, 102, 105, 110, 101, 100, 93, 44, 32, 44, 32, 117, 110, 100, 101, 102, 105, 110, 101, 100, 93]⟩) (by decide +kernel) (by decide +kernel)
  exact shown_arr3 ha h2 (le 2) (lu 2) (by decide +kernel) (by decide +kernel)
structure DS (w W : World) (h A m n vb : Nat) (os : List OS) (v : Vt) : Prop where
  mm : MM W h A m (prF 21) os
  len : os.length = 21 + n
  ne : Nest W vb (prF 21 2) os n v
  bel : Below w.heap.size w W
  lo : w.heap.size ≤ A
  bx : Box W vb 26 #[.int .i64 v.1, .int .i64 v.2.1, .string v.2.2]
  am : A ≤ vb
theorem DS.next {w wr w1 w4 : World} {h A m k vb b : Nat} {os : List OS} {v : Vt} {ev : Value} (H : DS w wr h A m k vb os v) (hb1 : Below wr.heap.size wr w1) (hm4 : MM w4 h A m (prF 21) (os ++ [(b, arO (prF 21 2) ev)])) (hr4 : RowV w4 ev [v]) (hb4 : Below A w1 w4) (hk4 : Kp arT w1 w4) (hg4 : ∀ ad n cap, ev = .slice (some ad) n cap → w1.heap.size < ad.block) :
    DS w (((w4.setCell ⟨vb, 0, none⟩ (.int .i64 9)).setCell ⟨vb, 1, none⟩ (.int .i64 ((os.length : Int) + 1))).setCell ⟨vb, 2, none⟩ (.string ⟨#[]⟩)) h A m (k + 1) vb (os ++ [(b, arO (prF 21 2) ev)]) (9, (os.length : Int) + 1, ⟨#[]⟩) := by
  have hbx : Box w4 vb 26 #[.int .i64 v.1, .int .i64 v.2.1, .string v.2.2] := hk4.box (H.bx.below hb1) rfl
  have hvb : vb < w1.heap.size := Nat.lt_of_lt_of_le H.bx.lt hb1.size
  have kx : Kp [26] w4 (((w4.setCell ⟨vb, 0, none⟩ (.int .i64 9)).setCell ⟨vb, 1, none⟩ (.int .i64 ((os.length : Int) + 1))).setCell ⟨vb, 2, none⟩ (.string ⟨#[]⟩)) := ((Kp.put hbx.lab rfl _ _).trans (Kp.put (hbx.put 0 _).lab rfl _ _)).trans (Kp.put ((hbx.put 0 _).put 1 _).lab rfl _ _)
  have kr : ∀ ev l, RowV w4 ev l → (∀ ad n cap, ev = .slice (some ad) n cap → vb < ad.block) → RowV (((w4.setCell ⟨vb, 0, none⟩ (.int .i64 9)).setCell ⟨vb, 1, none⟩ (.int .i64 ((os.length : Int) + 1))).setCell ⟨vb, 2, none⟩ (.string ⟨#[]⟩)) ev l := fun ev l hr hg => by
    have hn : ∀ ad n cap, ev = .slice (some ad) n cap → ad.block ≠ vb := fun ad n cap e => by have := hg ad n cap e; omega
    exact ((hr.put vb _ _ hn).put vb _ _ hn).put vb _ _ hn
  have hg : ∀ ad n cap, ev = .slice (some ad) n cap → vb < ad.block := fun ad n cap e => by have := hg4 ad n cap e; omega
  have hA : A ≤ vb := H.am
  have b1 := H.bel.trans (hb1.mono H.bel.size)
  have b4 := b1.trans (hb4.mono H.lo)
  refine ⟨hm4.kp kx (by decide), by rw [List.length_append, H.len]; rfl, ⟨v, os.length, b, ev, ?_, rfl, by simp, kr _ _ hr4 hg, hg⟩, ?_, H.lo, ((hbx.put 0 _).put 1 _).put 2 _, hA⟩
  · refine Nest.more (fun ev l hr hg => kr _ _ ((hr.on hb1).kp hk4 rfl) hg) (fun i o ho => ?_) k v H.ne
    rw [List.getElem?_append_left (List.getElem?_eq_some_iff.1 ho).1]
    exact ho
  · have hl : w.heap.size ≤ vb := Nat.le_trans H.lo hA
    exact ((b4.setCell (p := ⟨vb, 0, none⟩) hl _).setCell (p := ⟨vb, 1, none⟩) hl _).setCell (p := ⟨vb, 2, none⟩) hl _
theorem len13 {α : Type} {us : List α} (h : us.length = 13) : ∃ a0 a1 a2 a3 a4 a5 a6 a7 a8 a9 a10 a11 a12, us = [a0, a1, a2, a3, a4, a5, a6, a7, a8, a9, a10, a11, a12] := by
  match us, h with
  | [a0, a1, a2, a3, a4, a5, a6, a7, a8, a9, a10, a11, a12], _ => exact ⟨a0, a1, a2, a3, a4, a5, a6, a7, a8, a9, a10, a11, a12, rfl⟩
/-- Where the region stands that puts the array into itself. -/
def CSt (h A m b2 : Nat) (os : List OS) (WD : World) : Nat → (Nat → Value) → World → Prop
  | 0 => fun _ w => Below WD.heap.size WD w
  | 1 => fun f w => ∃ g, f 0 = .slice (some ⟨g, 0, none⟩) 3 3 ∧ Below WD.heap.size WD w ∧ RowV w (.slice (some ⟨g, 0, none⟩) 3 3) [(9, (os.length : Int) + 1, ⟨#[]⟩), (10, 0, ⟨#[]⟩), (0, 0, ⟨#[]⟩)]
  | _ => fun _ w => ∃ ev, MM w h A m (prF 21) (os ++ [(b2, arO (prF 21 2) ev)]) ∧ RowV w ev [(9, (os.length : Int) + 1, ⟨#[]⟩), (10, 0, ⟨#[]⟩), (0, 0, ⟨#[]⟩)] ∧ Below A WD w ∧ Kp [36] WD w
section
variable {h A m b2 s : Nat} {os : List OS} {ev2 : Value} {WD w w' : World} {f : Nat → Value}
theorem CSt.bel (hs : s ≤ 1) (h0 : CSt h A m b2 os WD s f w) : Below WD.heap.size WD w := by
  match s, hs, h0 with
  | 0, _, h0 => exact h0
  | 1, _, ⟨g, _, h1, _⟩ => exact h1
theorem CSt.on (hb : Below w.heap.size w w') (h0 : CSt h A m b2 os WD s f w) : CSt h A m b2 os WD s f w' := by
  match s, h0 with
  | 0, h0 =>
    have h0 : Below WD.heap.size WD w := h0
    exact h0.trans (hb.mono h0.size)
  | 1, ⟨g, h1, h2, h3⟩ => exact ⟨g, h1, h2.trans (hb.mono h2.size), h3.on hb⟩
  | s + 2, ⟨ev, h1, h2, h3, h4⟩ =>
    have hA := h1.am
    have hm := h1.mb.lt
    exact ⟨ev, h1.on hb, h2.on hb, h3.trans (hb.mono (by omega)), h4.trans (Kp.of_below hb)⟩
theorem CSt.fin (H : MM WD h A m (prF 21) (os ++ [(b2, arO (prF 21 2) ev2)])) (hb : Below WD.heap.size WD w) {g : Nat} (hr : RowV w (.slice (some ⟨g, 0, none⟩) 3 3) [(9, (os.length : Int) + 1, ⟨#[]⟩), (10, 0, ⟨#[]⟩), (0, 0, ⟨#[]⟩)]) : CSt h A m b2 os WD 2 f (w.setCell ⟨b2, 4, none⟩ (.slice (some ⟨g, 0, none⟩) 3 3)) := by
  have hw := H.on hb
  have hbx := hw.ob (b2, arO (prF 21 2) ev2) (by simp)
  have hA : A ≤ b2 := H.al (b2, arO (prF 21 2) ev2) (by simp)
  have hA2 : A ≤ WD.heap.size := by have := H.am; have := H.mb.lt; omega
  have kp : Kp [36] w (w.setCell ⟨b2, 4, none⟩ (.slice (some ⟨g, 0, none⟩) 3 3)) := Kp.put hbx.lab rfl _ _
  exact ⟨_, hw.setObj (os1 := os) (os2 := []) 4 _, hr.kp kp rfl, (hb.mono hA2).setCell (p := ⟨b2, 4, none⟩) hA _, (Kp.of_below hb).trans kp⟩
end
set_option maxHeartbeats 4000000 in
set_option maxRecDepth 100000 in
theorem deep_any (p0 : Int) (w : World) : Calls Tryd.prog 3 #[.int .i64 p0] w fun e w' => e = .returned (.bool true) ∧ Below w.heap.size w w' := by
  obtain ⟨n, hn8, hn1, hn2, hn3, hn4⟩ := rem_nat p0 8 (by omega)
  have HFT := Veil.mk (fun W => fit_any W)
  have HMC := Veil.mk (fun W => machine_any W)
  have HN := Veil.mk (And.intro hn1 (And.intro hn2 (And.intro hn3 hn4)))
  clear hn1 hn2 hn3 hn4
  go_enter Tryd.func3, Tryd.ntmps3
  go_upto_region 3 with (go_at_call 4; ((with_reducible refine (HFT.out _).mono ?_); rintro e w1 ⟨rfl, hb1⟩))
  have e1 : (p0.tmod 8 + 8).tmod 8 = (n : Int) := HN.out.1
  have e3 : 0 < p0.tmod 8 + 8 := HN.out.2.2.1
  have e4 : p0.tmod 8 < 8 := HN.out.2.2.2
  have HB1 := Veil.mk hb1
  clear hb1
  go_upto_region 5 with (go_at_call 5; ((with_reducible refine (HMC.out _).mono ?_); rintro e w2 ⟨h, A, m, os0, rfl, hp2⟩))
  have HP2 := Veil.mk hp2
  clear hp2 e1 e3 e4
  obtain ⟨vb, hvb⟩ : ∃ vb, w2.heap.size = vb := ⟨_, rfl⟩
  obtain ⟨W3, hW3⟩ : ∃ W3, w2.alloc (.cells #[.int .i64 3, .int .i64 5, .string ⟨#[]⟩] 26) = W3 := ⟨_, rfl⟩
  have H0 : Veil (DS w W3 h A m 0 vb os0 (3, 5, ⟨#[]⟩)) := ⟨by
    have hb : Below w2.heap.size w2 (w2.alloc (.cells #[.int .i64 3, .int .i64 5, .string ⟨#[]⟩] 26)) := (Below.refl _ _).alloc (Nat.le_refl _) _
    rw [← hW3, ← hvb]
    have h1 := HB1.out.trans (HP2.out.bel.mono HB1.out.size)
    refine ⟨HP2.out.mm.on hb, HP2.out.len, rfl, h1.trans (hb.mono h1.size), Nat.le_trans HB1.out.size HP2.out.lo, Box.new _ _ _, ?_⟩
    have := HP2.out.mm.mb.lt
    have := HP2.out.mm.am
    omega⟩
  have HW3 := Veil.mk (And.intro hW3 hvb)
  clear hW3 hvb HP2 HB1
  go_upto_region 6 with (fail)
  rw [HW3.out.1, HW3.out.2]
  go_wp2
  go_loopw [16] (fun i wr => ∃ (k : Nat) (os : List OS) (v : Vt), k ≤ n ∧ i = .int .i64 (k : Int) ∧ DS w wr h A m k vb os v) (fun i _ => n - (intOf i).toNat)
  case atStart => exact ⟨0, os0, _, by omega, rfl, H0.out⟩
  case round =>
    clear H0
    obtain ⟨k, os, v, hk, rfl, hds⟩ := hrel
    have hk0 : (0 : Int) ≤ (k : Int) := by omega
    by_cases hlt : k < n
    · have hlt' : (k : Int) < (n : Int) := by omega
      have HD := Veil.mk hds
      have x0 : wr.cell? ⟨vb, 0, none⟩ = some (.int .i64 v.1) := hds.bx.at_ 0
      have x1 : wr.cell? ⟨vb, 1, none⟩ = some (.int .i64 v.2.1) := hds.bx.at_ 1
      have x2 : wr.cell? ⟨vb, 2, none⟩ = some (.string v.2.2) := hds.bx.at_ 2
      have hb1 : Below wr.heap.size wr (wr.alloc (.cells #[.int .i64 v.1, .int .i64 v.2.1, .string v.2.2] 26)) := (Below.refl _ _).alloc (Nat.le_refl _) _
      have HA1 := Veil.mk ((hds.mm.on hb1).array _ [v] (one_row wr v) (by show 1 ≤ 10000; omega) (by have := hds.len; omega))
      have HB1 := Veil.mk hb1
      clear hds hb1
      go_wp2_with (go_at_call 6; ((with_reducible refine HA1.out.mono ?_); rintro e w4 ⟨rfl, b1, ev1, hm4, hr4, hb4, hk4, hg4⟩; have H4 := Veil.mk (And.intro hm4 (And.intro hr4 (And.intro hb4 (And.intro hk4 hg4)))); have hbx4 := hk4.box (HD.out.bx.below HB1.out) rfl; have y0 : w4.cell? ⟨vb, 0, none⟩ = some (.int .i64 v.1) := hbx4.at_ 0; have y1 : w4.cell? ⟨vb, 1, none⟩ = some (.int .i64 v.2.1) := hbx4.at_ 1; have y2 : w4.cell? ⟨vb, 2, none⟩ = some (.string v.2.2) := hbx4.at_ 2; have g0 := hbx4.free 0; have g1 := hbx4.free 1; have g2 := hbx4.free 2; have HX4 := Veil.mk hbx4; clear hm4 hr4 hb4 hk4 hg4 hbx4))
      have HNX := Veil.mk (HD.out.next HB1.out H4.out.1 H4.out.2.1 H4.out.2.2.1 H4.out.2.2.2.1 H4.out.2.2.2.2)
      clear HA1 HB1 H4 HX4 HD x0 x1 x2 y0 y1 y2 g0 g1 g2
      go_roundw
      case rel => exact ⟨k + 1, _, _, by omega, by go_num, HNX.out⟩
      case measure => simp [intOf]; omega
    · obtain rfl : k = n := by omega
      clear hlt hk
      obtain ⟨q, hq⟩ : ∃ q, min k 3 = q := ⟨_, rfl⟩
      have hq3 : q < 4 := by omega
      have hqi : min (k : Int) 3 = (q : Int) := by omega
      by_cases h3 : 3 < k
      · have h3i : (3 : Int) < (k : Int) := by omega
        have HW0 : wantL k 0 = ⟨#[91, 46, 46, 93]⟩ := by unfold wantL; rw [if_pos h3]
        have HWV := Veil.mk HW0
        have HD := Veil.mk hds
        have HQ := Veil.mk (And.intro hq h3)
        clear hds HW0 hq h3
        go_wp2
        go_loopw [5, 27] (fun s i wz => ∃ j : Nat, j ≤ q ∧ i = .int .i64 (j : Int) ∧ s = .string (wantL k j) ∧ wz = wr) (fun _ i _ => q - (intOf i).toNat)
        case atStart => exact ⟨0, by omega, rfl, by rw [HWV.out], rfl⟩
        case round =>
          obtain ⟨j, hj, rfl, rfl, rfl⟩ := hrel
          have hj0 : (0 : Int) ≤ (j : Int) := by omega
          by_cases hjq : j < q
          · have hjq' : (j : Int) < (q : Int) := by omega
            have hsz := wantL_size k hn8 j (by omega)
            have HNX : Veil (wantL k (j + 1) = ⟨#[91]⟩ ++ wantL k j ++ ⟨#[93]⟩) := ⟨rfl⟩
            obtain ⟨x, hx⟩ : ∃ x, wantL k j = x := ⟨_, rfl⟩
            rw [hx] at HNX hsz ⊢
            clear hx
            go_wp2
            go_roundw
            case rel => exact ⟨j + 1, by omega, by go_num, by rw [HNX.out], trivial⟩
            case measure => simp [intOf]; omega
          · obtain rfl : j = q := by omega
            have hwe : wantL k j = wantS 3 k := by rw [← HQ.out.1]; exact want_eq k hn8
            rw [hwe]
            have HA1 := Veil.mk (HD.out.mm.array _ [] (RowV.nil _) (by decide) (by have := HD.out.len; omega))
            clear hwe HWV hqi hq3 hjq hj hj0
            go_upto_region 18 with (go_at_call 6; ((with_reducible refine HA1.out.mono ?_); rintro e w4 ⟨rfl, b2, ev2, hm4, hr4, hb4, hk4, -⟩; have H4 := Veil.mk (And.intro hm4 (And.intro hb4 hk4)); clear hm4 hr4 hb4 hk4))
            obtain ⟨W5, hW5⟩ : ∃ W5, w4.alloc (.cells #[.int .i64 9, .int .i64 ((os.length : Int) + 1), .string ⟨#[]⟩] 26) = W5 := ⟨_, rfl⟩
            have hx5 := Box.new w4 26 #[.int .i64 9, .int .i64 ((os.length : Int) + 1), .string ⟨#[]⟩]
            have hal : Below w4.heap.size w4 (w4.alloc (.cells #[.int .i64 9, .int .i64 ((os.length : Int) + 1), .string ⟨#[]⟩] 26)) := (Below.refl _ _).alloc (Nat.le_refl _) _
            rw [hW5] at hx5 hal ⊢
            obtain ⟨WD, hWD⟩ : ∃ WD, W5.drew = WD := ⟨_, rfl⟩
            have hald : Below w4.heap.size w4 WD := by rw [← hWD]; exact hal.drew
            have hxd : Box WD w4.heap.size 26 #[.int .i64 9, .int .i64 ((os.length : Int) + 1), .string ⟨#[]⟩] := by rw [← hWD]; exact hx5.drew
            have HMD := Veil.mk (H4.out.1.on hald)
            have HCC : Veil ((∀ W, Below WD.heap.size WD W → W.cell? ⟨m, 0, none⟩ = some (.pointer (some ⟨h, 0, none⟩))) ∧ ∀ W, Below WD.heap.size WD W → W.cell? ⟨w4.heap.size, 0, none⟩ = some (.int .i64 9) ∧ W.cell? ⟨w4.heap.size, 1, none⟩ = some (.int .i64 ((os.length : Int) + 1)) ∧ W.cell? ⟨w4.heap.size, 2, none⟩ = some (.string ⟨#[]⟩)) := ⟨fun W hb => (HMD.out.on hb).cell0, fun W hb => ⟨(hxd.below hb).at_ 0, (hxd.below hb).at_ 1, (hxd.below hb).at_ 2⟩⟩
            have HOF : Veil (∀ W, Below WD.heap.size WD W → Calls Tryd.prog 7 #[.pointer (some ⟨h, 0, none⟩), valV (9, (os.length : Int) + 1, ⟨#[]⟩)] W fun e w' => e = .returned (.pointer (some ⟨b2, 0, none⟩)) ∧ Below W.heap.size W w') := ⟨fun W hb => (HMD.out.on hb).of_ os.length (b2, arO (prF 21 2) ev2) (by simp) ⟨#[]⟩⟩
            have HXD := Veil.mk (And.intro hald hxd)
            have HWD := Veil.mk hWD
            clear hWD hald hxd hW5 hx5 hal HA1
            refine wp_region_chain (some (· = .pointer (some ⟨m, 0, none⟩)) :: some (· = .pointer (some ⟨m, 0, none⟩)) :: some (· = .pointer (some ⟨m, 0, none⟩)) :: some (· = .pointer (some ⟨h, 0, none⟩)) :: some (· = valV (9, (os.length : Int) + 1, ⟨#[]⟩)) :: some (· = .pointer (some ⟨b2, 0, none⟩)) :: some (· = valV (9, (os.length : Int) + 1, ⟨#[]⟩)) :: some (· = .agg #[.int .i64 10, .int .i64 0, .string ⟨#[]⟩]) :: some (· = .agg #[.int .i64 0, .int .i64 0, .string ⟨#[]⟩]) :: none :: some (· = .pointer (some ⟨b2, 0, none⟩)) :: some (· = .pointer (some ⟨b2, 4, none⟩)) :: none :: [] : List (Option (Value → Prop))) (LPh [9, 12] (CSt h A m b2 os WD)) [some 35, some 36, some 37, some 38, some 39, some 40, some 41, some 42, some 43, some 44, some 45, some 46, none] (curV' _ [some 35, some 36, some 37, some 38, some 39, some 40, some 41, some 42, some 43, some 44, some 45, some 46, none]) (by kernel_rfl) rfl rfl (puts_cur _ _) (LPh.start ((show _ from by rw [HWD.out]; exact Below.refl _ _))) ?_ (by kernel_rfl) ?_
            · refine Steps.cons rfl (fun bb aa w' hbs hb0 hbp hI K hK => ?_) ?_
              · obtain ⟨us, hus, ha, hI⟩ := hI
                obtain ⟨u0, u1, u2, u3, u4, u5, u6, u7, u8, u9, u10, u11, u12, rfl⟩ := len13 hus
                have HI := Veil.mk hI
                clear hI
                rw [ha]
                simp only [puts, setAll, List.setIfInBounds_toArray, List.set_cons_zero, List.set_cons_succ]
                go_simp
                exact hK _ _ (chain_step HI.out hus hbs 0 _ (by show 0 < 13; decide) rfl hbp (val_of rfl rfl) (HI.out.ph.step 0 _ (by decide) (by decide)) (by simp only [puts, setAll, List.set_cons_zero, List.set_cons_succ, List.setIfInBounds_toArray]))
              refine Steps.cons rfl (fun bb aa w' hbs hb0 hbp hI K hK => ?_) ?_
              · obtain ⟨us, hus, ha, hI⟩ := hI
                obtain ⟨u0, u1, u2, u3, u4, u5, u6, u7, u8, u9, u10, u11, u12, rfl⟩ := len13 hus
                have e0 : u0 = .pointer (some ⟨m, 0, none⟩) := hI.val 0 _ rfl (gen_after 0 (by kernel_rfl) hbp)
                subst e0
                have HI := Veil.mk hI
                clear hI
                rw [ha]
                simp only [puts, setAll, List.setIfInBounds_toArray, List.set_cons_zero, List.set_cons_succ]
                go_simp
                exact hK _ _ (chain_step HI.out hus hbs 1 _ (by show 1 < 13; decide) rfl hbp (val_of rfl rfl) (HI.out.ph.step 1 _ (by decide) (by decide)) (by simp only [puts, setAll, List.set_cons_zero, List.set_cons_succ, List.setIfInBounds_toArray]))
              refine Steps.cons rfl (fun bb aa w' hbs hb0 hbp hI K hK => ?_) ?_
              · obtain ⟨us, hus, ha, hI⟩ := hI
                obtain ⟨u0, u1, u2, u3, u4, u5, u6, u7, u8, u9, u10, u11, u12, rfl⟩ := len13 hus
                have e1 : u1 = .pointer (some ⟨m, 0, none⟩) := hI.val 1 _ rfl (gen_after 1 (by kernel_rfl) hbp)
                subst e1
                have HI := Veil.mk hI
                clear hI
                rw [ha]
                simp only [puts, setAll, List.setIfInBounds_toArray, List.set_cons_zero, List.set_cons_succ]
                go_simp
                exact hK _ _ (chain_step HI.out hus hbs 2 _ (by show 2 < 13; decide) rfl hbp (val_of rfl rfl) (HI.out.ph.step 2 _ (by decide) (by decide)) (by simp only [puts, setAll, List.set_cons_zero, List.set_cons_succ, List.setIfInBounds_toArray]))
              refine Steps.cons rfl (fun bb aa w' hbs hb0 hbp hI K hK => ?_) ?_
              · obtain ⟨us, hus, ha, hI⟩ := hI
                obtain ⟨u0, u1, u2, u3, u4, u5, u6, u7, u8, u9, u10, u11, u12, rfl⟩ := len13 hus
                have e2 : u2 = .pointer (some ⟨m, 0, none⟩) := hI.val 2 _ rfl (gen_after 2 (by kernel_rfl) hbp)
                subst e2
                have gb := (hI.bwd [3] 12 3 (by kernel_rfl) rfl hb0)
                obtain ⟨sg, hlo, hhi, hst⟩ := hI.ph.btw 0 1 (.inl rfl) (.inr ⟨12, rfl, gb⟩)
                have hbl := CSt.bel (by omega) hst
                clear hst
                have c0 := HCC.out.1 w' hbl
                clear gb
                have HI := Veil.mk hI
                clear hI
                rw [ha]
                simp only [puts, setAll, List.setIfInBounds_toArray, List.set_cons_zero, List.set_cons_succ]
                go_simp
                exact hK _ _ (chain_step HI.out hus hbs 3 _ (by show 3 < 13; decide) rfl hbp (val_of rfl rfl) (HI.out.ph.step 3 _ (by decide) (by decide)) (by simp only [puts, setAll, List.set_cons_zero, List.set_cons_succ, List.setIfInBounds_toArray]))
              refine Steps.cons rfl (fun bb aa w' hbs hb0 hbp hI K hK => ?_) ?_
              · obtain ⟨us, hus, ha, hI⟩ := hI
                obtain ⟨u0, u1, u2, u3, u4, u5, u6, u7, u8, u9, u10, u11, u12, rfl⟩ := len13 hus
                have gb := (hI.bwd [4] 12 4 (by kernel_rfl) rfl hb0)
                obtain ⟨sg, hlo, hhi, hst⟩ := hI.ph.btw 0 1 (.inl rfl) (.inr ⟨12, rfl, gb⟩)
                have hbl := CSt.bel (by omega) hst
                clear hst
                obtain ⟨c0, c1, c2⟩ := HCC.out.2 w' hbl
                clear gb
                have HI := Veil.mk hI
                clear hI
                rw [ha]
                simp only [puts, setAll, List.setIfInBounds_toArray, List.set_cons_zero, List.set_cons_succ]
                go_simp
                exact hK _ _ (chain_step HI.out hus hbs 4 _ (by show 4 < 13; decide) rfl hbp (val_of rfl rfl) (HI.out.ph.step 4 _ (by decide) (by decide)) (by simp only [puts, setAll, List.set_cons_zero, List.set_cons_succ, List.setIfInBounds_toArray]))
              refine Steps.cons rfl (fun bb aa w' hbs hb0 hbp hI K hK => ?_) ?_
              · obtain ⟨us, hus, ha, hI⟩ := hI
                obtain ⟨u0, u1, u2, u3, u4, u5, u6, u7, u8, u9, u10, u11, u12, rfl⟩ := len13 hus
                have e3 : u3 = .pointer (some ⟨h, 0, none⟩) := hI.val 3 _ rfl (gen_after 3 (by kernel_rfl) hbp)
                subst e3
                have e4 : u4 = valV (9, (os.length : Int) + 1, ⟨#[]⟩) := hI.val 4 _ rfl (gen_after 4 (by kernel_rfl) hbp)
                subst e4
                have gb := (hI.bwd [5] 12 5 (by kernel_rfl) rfl hb0)
                obtain ⟨sg, hlo, hhi, hst⟩ := hI.ph.btw 0 1 (.inl rfl) (.inr ⟨12, rfl, gb⟩)
                have HOFX := Veil.mk (HOF.out w' (CSt.bel (by omega) hst))
                clear hst
                clear gb
                have HI := Veil.mk hI
                clear hI
                rw [ha]
                simp only [puts, setAll, List.setIfInBounds_toArray, List.set_cons_zero, List.set_cons_succ]
                go_simp
                go_at_call 7
                refine HOFX.out.mono ?_
                rintro e9 w9 ⟨rfl, hb9⟩
                go_simp
                exact hK _ _ (chain_step HI.out hus hbs 5 _ (by show 5 < 13; decide) rfl hbp (val_of rfl rfl) (HI.out.ph.light 5 _ (by decide) (by decide) (fun s f h => CSt.on hb9 h)) (by simp only [puts, setAll, List.set_cons_zero, List.set_cons_succ, List.setIfInBounds_toArray]))
              refine Steps.cons rfl (fun bb aa w' hbs hb0 hbp hI K hK => ?_) ?_
              · obtain ⟨us, hus, ha, hI⟩ := hI
                obtain ⟨u0, u1, u2, u3, u4, u5, u6, u7, u8, u9, u10, u11, u12, rfl⟩ := len13 hus
                have gb := (hI.bwd [6] 9 6 (by kernel_rfl) rfl hb0)
                have hst := hI.ph.btw1 0 (.inl rfl) (.inr ⟨9, rfl, gb⟩)
                have hbl := CSt.bel (by omega) hst
                clear hst
                obtain ⟨c0, c1, c2⟩ := HCC.out.2 w' hbl
                clear gb
                have HI := Veil.mk hI
                clear hI
                rw [ha]
                simp only [puts, setAll, List.setIfInBounds_toArray, List.set_cons_zero, List.set_cons_succ]
                go_simp
                exact hK _ _ (chain_step HI.out hus hbs 6 _ (by show 6 < 13; decide) rfl hbp (val_of rfl rfl) (HI.out.ph.step 6 _ (by decide) (by decide)) (by simp only [puts, setAll, List.set_cons_zero, List.set_cons_succ, List.setIfInBounds_toArray]))
              refine Steps.cons rfl (fun bb aa w' hbs hb0 hbp hI K hK => ?_) ?_
              · obtain ⟨us, hus, ha, hI⟩ := hI
                obtain ⟨u0, u1, u2, u3, u4, u5, u6, u7, u8, u9, u10, u11, u12, rfl⟩ := len13 hus
                have HI := Veil.mk hI
                clear hI
                rw [ha]
                simp only [puts, setAll, List.setIfInBounds_toArray, List.set_cons_zero, List.set_cons_succ]
                go_simp
                exact hK _ _ (chain_step HI.out hus hbs 7 _ (by show 7 < 13; decide) rfl hbp (val_of rfl rfl) (HI.out.ph.step 7 _ (by decide) (by decide)) (by simp only [puts, setAll, List.set_cons_zero, List.set_cons_succ, List.setIfInBounds_toArray]))
              refine Steps.cons rfl (fun bb aa w' hbs hb0 hbp hI K hK => ?_) ?_
              · obtain ⟨us, hus, ha, hI⟩ := hI
                obtain ⟨u0, u1, u2, u3, u4, u5, u6, u7, u8, u9, u10, u11, u12, rfl⟩ := len13 hus
                have HI := Veil.mk hI
                clear hI
                rw [ha]
                simp only [puts, setAll, List.setIfInBounds_toArray, List.set_cons_zero, List.set_cons_succ]
                go_simp
                exact hK _ _ (chain_step HI.out hus hbs 8 _ (by show 8 < 13; decide) rfl hbp (val_of rfl rfl) (HI.out.ph.step 8 _ (by decide) (by decide)) (by simp only [puts, setAll, List.set_cons_zero, List.set_cons_succ, List.setIfInBounds_toArray]))
              refine Steps.cons rfl (fun bb aa w' hbs hb0 hbp hI K hK => ?_) ?_
              · obtain ⟨us, hus, ha, hI⟩ := hI
                obtain ⟨u0, u1, u2, u3, u4, u5, u6, u7, u8, u9, u10, u11, u12, rfl⟩ := len13 hus
                have e6 : u6 = valV (9, (os.length : Int) + 1, ⟨#[]⟩) := hI.val 6 _ rfl (gen_after 6 (by kernel_rfl) hbp)
                subst e6
                have e7 : u7 = .agg #[.int .i64 10, .int .i64 0, .string ⟨#[]⟩] := hI.val 7 _ rfl (gen_after 7 (by kernel_rfl) hbp)
                subst e7
                have e8 : u8 = .agg #[.int .i64 0, .int .i64 0, .string ⟨#[]⟩] := hI.val 8 _ rfl (gen_after 8 (by kernel_rfl) hbp)
                subst e8
                have gb := hb0
                have hst := hI.ph.btw1 0 (.inl rfl) (.inr ⟨9, rfl, gb⟩)
                have HST := Veil.mk (show Below WD.heap.size WD w' from hst)
                clear hst
                clear gb
                have HI := Veil.mk hI
                clear hI
                rw [ha]
                simp only [puts, setAll, List.setIfInBounds_toArray, List.set_cons_zero, List.set_cons_succ]
                go_simp
                exact hK _ _ (chain_step HI.out hus hbs 9 (.slice (some ⟨w'.heap.size, 0, none⟩) 3 3) (by show 9 < 13; decide) rfl hbp (none_of rfl) (HI.out.ph.next 0 9 _ rfl hb0 (.inl rfl) (by decide) (show ∃ g, _ from ⟨w'.heap.size, rfl, HST.out.alloc HST.out.size _, three_row w' (9, (os.length : Int) + 1, ⟨#[]⟩) (10, 0, ⟨#[]⟩) (0, 0, ⟨#[]⟩)⟩)) (by simp only [puts, setAll, List.set_cons_zero, List.set_cons_succ, List.setIfInBounds_toArray]))
              refine Steps.cons rfl (fun bb aa w' hbs hb0 hbp hI K hK => ?_) ?_
              · obtain ⟨us, hus, ha, hI⟩ := hI
                obtain ⟨u0, u1, u2, u3, u4, u5, u6, u7, u8, u9, u10, u11, u12, rfl⟩ := len13 hus
                have e5 : u5 = .pointer (some ⟨b2, 0, none⟩) := hI.val 5 _ rfl (gen_after 5 (by kernel_rfl) hbp)
                subst e5
                have HI := Veil.mk hI
                clear hI
                rw [ha]
                simp only [puts, setAll, List.setIfInBounds_toArray, List.set_cons_zero, List.set_cons_succ]
                go_simp
                exact hK _ _ (chain_step HI.out hus hbs 10 _ (by show 10 < 13; decide) rfl hbp (val_of rfl rfl) (HI.out.ph.step 10 _ (by decide) (by decide)) (by simp only [puts, setAll, List.set_cons_zero, List.set_cons_succ, List.setIfInBounds_toArray]))
              refine Steps.cons rfl (fun bb aa w' hbs hb0 hbp hI K hK => ?_) ?_
              · obtain ⟨us, hus, ha, hI⟩ := hI
                obtain ⟨u0, u1, u2, u3, u4, u5, u6, u7, u8, u9, u10, u11, u12, rfl⟩ := len13 hus
                have e10 : u10 = .pointer (some ⟨b2, 0, none⟩) := hI.val 10 _ rfl (gen_after 10 (by kernel_rfl) hbp)
                subst e10
                have HI := Veil.mk hI
                clear hI
                rw [ha]
                simp only [puts, setAll, List.setIfInBounds_toArray, List.set_cons_zero, List.set_cons_succ]
                go_simp
                exact hK _ _ (chain_step HI.out hus hbs 11 _ (by show 11 < 13; decide) rfl hbp (val_of rfl rfl) (HI.out.ph.step 11 _ (by decide) (by decide)) (by simp only [puts, setAll, List.set_cons_zero, List.set_cons_succ, List.setIfInBounds_toArray]))
              refine Steps.cons rfl (fun bb aa w' hbs hb0 hbp hI K hK => ?_) ?_
              · obtain ⟨us, hus, ha, hI⟩ := hI
                obtain ⟨u0, u1, u2, u3, u4, u5, u6, u7, u8, u9, u10, u11, u12, rfl⟩ := len13 hus
                have e11 : u11 = .pointer (some ⟨b2, 4, none⟩) := hI.val 11 _ rfl (gen_after 11 (by kernel_rfl) hbp)
                subst e11
                have ga := (gen_after 9 (by kernel_rfl) hbp)
                have gb := hb0
                have hst := hI.ph.btw1 1 (.inr ⟨9, rfl, ga⟩) (.inr ⟨12, rfl, gb⟩)
                obtain ⟨g9, e9, hb9, hr9⟩ := hst
                replace e9 : u9 = .slice (some ⟨g9, 0, none⟩) 3 3 := e9
                subst e9
                have HST := Veil.mk (And.intro hb9 hr9)
                have hbx := (HMD.out.on hb9).ob (b2, arO (prF 21 2) ev2) (by simp)
                have c0 : w'.cell? ⟨b2, 4, none⟩ = some ev2 := hbx.at_ 4
                have f0 := hbx.free 4
                clear hbx hb9 hr9
                have HGA := Veil.mk ga
                clear ga gb
                have HI := Veil.mk hI
                clear hI
                rw [ha]
                simp only [puts, setAll, List.setIfInBounds_toArray, List.set_cons_zero, List.set_cons_succ]
                go_simp
                exact hK _ _ (chain_step HI.out hus hbs 12 undef (by show 12 < 13; decide) rfl hbp (none_of rfl) (HI.out.ph.next 1 12 _ rfl hb0 (.inr ⟨9, rfl, HGA.out⟩) (by decide) (CSt.fin HMD.out HST.out.1 HST.out.2)) (by simp only [puts, setAll, List.set_cons_zero, List.set_cons_succ, List.setIfInBounds_toArray]))
              exact Steps.nil
            · intro us wE hus dd hD2 hJ
              obtain ⟨p0, p1, p2, p3, p4, p5, p6, p7, p8, p9, p10, p11, p12, rfl⟩ := len13 hus
              have q1 := hJ.ph.all (fun c hc => hD2 c (by
                have : c = 9 ∨ c = 12 := by simpa using hc
                show c < 13
                omega))
              have e0 : p0 = .pointer (some ⟨m, 0, none⟩) := hJ.val 0 _ rfl (hD2 0 (by show 0 < 13; decide))
              subst e0
              have e1 : p1 = .pointer (some ⟨m, 0, none⟩) := hJ.val 1 _ rfl (hD2 1 (by show 1 < 13; decide))
              subst e1
              have e2 : p2 = .pointer (some ⟨m, 0, none⟩) := hJ.val 2 _ rfl (hD2 2 (by show 2 < 13; decide))
              subst e2
              have e3 : p3 = .pointer (some ⟨h, 0, none⟩) := hJ.val 3 _ rfl (hD2 3 (by show 3 < 13; decide))
              subst e3
              have e4 : p4 = valV (9, (os.length : Int) + 1, ⟨#[]⟩) := hJ.val 4 _ rfl (hD2 4 (by show 4 < 13; decide))
              subst e4
              have e5 : p5 = .pointer (some ⟨b2, 0, none⟩) := hJ.val 5 _ rfl (hD2 5 (by show 5 < 13; decide))
              subst e5
              have e6 : p6 = valV (9, (os.length : Int) + 1, ⟨#[]⟩) := hJ.val 6 _ rfl (hD2 6 (by show 6 < 13; decide))
              subst e6
              have e7 : p7 = .agg #[.int .i64 10, .int .i64 0, .string ⟨#[]⟩] := hJ.val 7 _ rfl (hD2 7 (by show 7 < 13; decide))
              subst e7
              have e8 : p8 = .agg #[.int .i64 0, .int .i64 0, .string ⟨#[]⟩] := hJ.val 8 _ rfl (hD2 8 (by show 8 < 13; decide))
              subst e8
              have e10 : p10 = .pointer (some ⟨b2, 0, none⟩) := hJ.val 10 _ rfl (hD2 10 (by show 10 < 13; decide))
              subst e10
              have e11 : p11 = .pointer (some ⟨b2, 4, none⟩) := hJ.val 11 _ rfl (hD2 11 (by show 11 < 13; decide))
              subst e11
              clear hJ hD2
              have HQ2 := Veil.mk q1
              clear q1
              simp only [puts, setAll, List.setIfInBounds_toArray, List.set_cons_zero, List.set_cons_succ]
              obtain ⟨ev, hm5, hr5, hb5, hk5⟩ := HQ2.out
              have hnE : Nest wE vb (prF 21 2) (os ++ [(b2, arO (prF 21 2) ev)]) k v := by
                refine Nest.more (fun ev l hr hg => (((hr.kp H4.out.2.2 rfl).on HXD.out.1).kp hk5 rfl)) (fun i o ho => ?_) k v HD.out.ne
                rw [List.getElem?_append_left (List.getElem?_eq_some_iff.1 ho).1]
                exact ho
              have hbv : Box wE vb 26 #[.int .i64 v.1, .int .i64 v.2.1, .string v.2.2] := hk5.box ((H4.out.2.2.box HD.out.bx rfl).below HXD.out.1) rfl
              have hba : Box wE w4.heap.size 26 #[.int .i64 9, .int .i64 ((os.length : Int) + 1), .string ⟨#[]⟩] := hk5.box HXD.out.2 rfl
              have HSV := Veil.mk (show_shown hm5.cell0 hm5.mb.lt v _ (hnE.shown hm5 3 k v (Nat.le_refl _) (by omega)))
              have HSA : Veil (∀ W, Below wE.heap.size wE W → Calls Tryd.prog 8 #[.pointer (some ⟨m, 0, none⟩), valV (9, (os.length : Int) + 1, ⟨#[]⟩)] W fun e w' => e = .returned (.string circS) ∧ Below W.heap.size W w') := ⟨fun W hb => show_shown (hm5.on hb).cell0 (hm5.on hb).mb.lt _ _ (circ_shown ((hm5.on hb).last (hr5.on hb) (by show 3 ≤ 1000000; omega)))⟩
              have HBE : Veil (Below w.heap.size w wE) := ⟨by
                have g1 := HD.out.bel.trans (H4.out.2.1.mono HD.out.lo)
                have g2 := g1.trans (HXD.out.1.mono g1.size)
                exact g2.trans (hb5.mono HD.out.lo)⟩
              have x0 : wE.cell? ⟨vb, 0, none⟩ = some (.int .i64 v.1) := hbv.at_ 0
              have x1 : wE.cell? ⟨vb, 1, none⟩ = some (.int .i64 v.2.1) := hbv.at_ 1
              have x2 : wE.cell? ⟨vb, 2, none⟩ = some (.string v.2.2) := hbv.at_ 2
              have HBA : Veil (Box wE w4.heap.size 26 #[.int .i64 9, .int .i64 ((os.length : Int) + 1), .string ⟨#[]⟩]) := ⟨hba⟩
              obtain ⟨ws, hws⟩ : ∃ ws, wantS 3 k = ws := ⟨_, rfl⟩
              obtain ⟨ab, hab⟩ : ∃ ab, w4.heap.size = ab := ⟨_, rfl⟩
              rw [hws] at HSV ⊢
              rw [hab] at HBA ⊢
              clear hm5 hr5 hb5 hk5 hnE hbv hba hws hab HQ2 HMD HCC HOF HXD HWD
              go_wp2_with (first | (go_at_call 8; ((with_reducible refine HSV.out.mono ?_); rintro e w6 ⟨rfl, hb6⟩; have HSA2 := Veil.mk (HSA.out w6 hb6); have y0 : w6.cell? ⟨ab, 0, none⟩ = some (.int .i64 9) := (HBA.out.below hb6).at_ 0; have y1 : w6.cell? ⟨ab, 1, none⟩ = some (.int .i64 ((os.length : Int) + 1)) := (HBA.out.below hb6).at_ 1; have y2 : w6.cell? ⟨ab, 2, none⟩ = some (.string ⟨#[]⟩) := (HBA.out.below hb6).at_ 2; have HB6 := Veil.mk (HBE.out.trans (hb6.mono HBE.out.size)); clear hb6)) | (go_at_call 8; ((with_reducible refine HSA2.out.mono ?_); rintro e w7 ⟨rfl, hb7⟩)))
              go_ret
              exact ⟨ret_bool (by decide +kernel), HB6.out.trans (hb7.mono HB6.out.size)⟩
      · have h3i : ¬ (3 : Int) < (k : Int) := by omega
        have HW0 : wantL k 0 = ⟨#[53]⟩ := by unfold wantL; rw [if_neg h3]
        have HWV := Veil.mk HW0
        have HD := Veil.mk hds
        have HQ := Veil.mk (And.intro hq h3)
        clear hds HW0 hq h3
        go_wp2
        go_loopw [5, 27] (fun s i wz => ∃ j : Nat, j ≤ q ∧ i = .int .i64 (j : Int) ∧ s = .string (wantL k j) ∧ wz = wr) (fun _ i _ => q - (intOf i).toNat)
        case atStart => exact ⟨0, by omega, rfl, by rw [HWV.out], rfl⟩
        case round =>
          obtain ⟨j, hj, rfl, rfl, rfl⟩ := hrel
          have hj0 : (0 : Int) ≤ (j : Int) := by omega
          by_cases hjq : j < q
          · have hjq' : (j : Int) < (q : Int) := by omega
            have hsz := wantL_size k hn8 j (by omega)
            have HNX : Veil (wantL k (j + 1) = ⟨#[91]⟩ ++ wantL k j ++ ⟨#[93]⟩) := ⟨rfl⟩
            obtain ⟨x, hx⟩ : ∃ x, wantL k j = x := ⟨_, rfl⟩
            rw [hx] at HNX hsz ⊢
            clear hx
            go_wp2
            go_roundw
            case rel => exact ⟨j + 1, by omega, by go_num, by rw [HNX.out], trivial⟩
            case measure => simp [intOf]; omega
          · obtain rfl : j = q := by omega
            have hwe : wantL k j = wantS 3 k := by rw [← HQ.out.1]; exact want_eq k hn8
            rw [hwe]
            have HA1 := Veil.mk (HD.out.mm.array _ [] (RowV.nil _) (by decide) (by have := HD.out.len; omega))
            clear hwe HWV hqi hq3 hjq hj hj0
            go_upto_region 18 with (go_at_call 6; ((with_reducible refine HA1.out.mono ?_); rintro e w4 ⟨rfl, b2, ev2, hm4, hr4, hb4, hk4, -⟩; have H4 := Veil.mk (And.intro hm4 (And.intro hb4 hk4)); clear hm4 hr4 hb4 hk4))
            obtain ⟨W5, hW5⟩ : ∃ W5, w4.alloc (.cells #[.int .i64 9, .int .i64 ((os.length : Int) + 1), .string ⟨#[]⟩] 26) = W5 := ⟨_, rfl⟩
            have hx5 := Box.new w4 26 #[.int .i64 9, .int .i64 ((os.length : Int) + 1), .string ⟨#[]⟩]
            have hal : Below w4.heap.size w4 (w4.alloc (.cells #[.int .i64 9, .int .i64 ((os.length : Int) + 1), .string ⟨#[]⟩] 26)) := (Below.refl _ _).alloc (Nat.le_refl _) _
            rw [hW5] at hx5 hal ⊢
            obtain ⟨WD, hWD⟩ : ∃ WD, W5.drew = WD := ⟨_, rfl⟩
            have hald : Below w4.heap.size w4 WD := by rw [← hWD]; exact hal.drew
            have hxd : Box WD w4.heap.size 26 #[.int .i64 9, .int .i64 ((os.length : Int) + 1), .string ⟨#[]⟩] := by rw [← hWD]; exact hx5.drew
            have HMD := Veil.mk (H4.out.1.on hald)
            have HCC : Veil ((∀ W, Below WD.heap.size WD W → W.cell? ⟨m, 0, none⟩ = some (.pointer (some ⟨h, 0, none⟩))) ∧ ∀ W, Below WD.heap.size WD W → W.cell? ⟨w4.heap.size, 0, none⟩ = some (.int .i64 9) ∧ W.cell? ⟨w4.heap.size, 1, none⟩ = some (.int .i64 ((os.length : Int) + 1)) ∧ W.cell? ⟨w4.heap.size, 2, none⟩ = some (.string ⟨#[]⟩)) := ⟨fun W hb => (HMD.out.on hb).cell0, fun W hb => ⟨(hxd.below hb).at_ 0, (hxd.below hb).at_ 1, (hxd.below hb).at_ 2⟩⟩
            have HOF : Veil (∀ W, Below WD.heap.size WD W → Calls Tryd.prog 7 #[.pointer (some ⟨h, 0, none⟩), valV (9, (os.length : Int) + 1, ⟨#[]⟩)] W fun e w' => e = .returned (.pointer (some ⟨b2, 0, none⟩)) ∧ Below W.heap.size W w') := ⟨fun W hb => (HMD.out.on hb).of_ os.length (b2, arO (prF 21 2) ev2) (by simp) ⟨#[]⟩⟩
            have HXD := Veil.mk (And.intro hald hxd)
            have HWD := Veil.mk hWD
            clear hWD hald hxd hW5 hx5 hal HA1
            refine wp_region_chain (some (· = .pointer (some ⟨m, 0, none⟩)) :: some (· = .pointer (some ⟨m, 0, none⟩)) :: some (· = .pointer (some ⟨m, 0, none⟩)) :: some (· = .pointer (some ⟨h, 0, none⟩)) :: some (· = valV (9, (os.length : Int) + 1, ⟨#[]⟩)) :: some (· = .pointer (some ⟨b2, 0, none⟩)) :: some (· = valV (9, (os.length : Int) + 1, ⟨#[]⟩)) :: some (· = .agg #[.int .i64 10, .int .i64 0, .string ⟨#[]⟩]) :: some (· = .agg #[.int .i64 0, .int .i64 0, .string ⟨#[]⟩]) :: none :: some (· = .pointer (some ⟨b2, 0, none⟩)) :: some (· = .pointer (some ⟨b2, 4, none⟩)) :: none :: [] : List (Option (Value → Prop))) (LPh [9, 12] (CSt h A m b2 os WD)) [some 35, some 36, some 37, some 38, some 39, some 40, some 41, some 42, some 43, some 44, some 45, some 46, none] (curV' _ [some 35, some 36, some 37, some 38, some 39, some 40, some 41, some 42, some 43, some 44, some 45, some 46, none]) (by kernel_rfl) rfl rfl (puts_cur _ _) (LPh.start ((show _ from by rw [HWD.out]; exact Below.refl _ _))) ?_ (by kernel_rfl) ?_
            · refine Steps.cons rfl (fun bb aa w' hbs hb0 hbp hI K hK => ?_) ?_
              · obtain ⟨us, hus, ha, hI⟩ := hI
                obtain ⟨u0, u1, u2, u3, u4, u5, u6, u7, u8, u9, u10, u11, u12, rfl⟩ := len13 hus
                have HI := Veil.mk hI
                clear hI
                rw [ha]
                simp only [puts, setAll, List.setIfInBounds_toArray, List.set_cons_zero, List.set_cons_succ]
                go_simp
                exact hK _ _ (chain_step HI.out hus hbs 0 _ (by show 0 < 13; decide) rfl hbp (val_of rfl rfl) (HI.out.ph.step 0 _ (by decide) (by decide)) (by simp only [puts, setAll, List.set_cons_zero, List.set_cons_succ, List.setIfInBounds_toArray]))
              refine Steps.cons rfl (fun bb aa w' hbs hb0 hbp hI K hK => ?_) ?_
              · obtain ⟨us, hus, ha, hI⟩ := hI
                obtain ⟨u0, u1, u2, u3, u4, u5, u6, u7, u8, u9, u10, u11, u12, rfl⟩ := len13 hus
                have e0 : u0 = .pointer (some ⟨m, 0, none⟩) := hI.val 0 _ rfl (gen_after 0 (by kernel_rfl) hbp)
                subst e0
                have HI := Veil.mk hI
                clear hI
                rw [ha]
                simp only [puts, setAll, List.setIfInBounds_toArray, List.set_cons_zero, List.set_cons_succ]
                go_simp
                exact hK _ _ (chain_step HI.out hus hbs 1 _ (by show 1 < 13; decide) rfl hbp (val_of rfl rfl) (HI.out.ph.step 1 _ (by decide) (by decide)) (by simp only [puts, setAll, List.set_cons_zero, List.set_cons_succ, List.setIfInBounds_toArray]))
              refine Steps.cons rfl (fun bb aa w' hbs hb0 hbp hI K hK => ?_) ?_
              · obtain ⟨us, hus, ha, hI⟩ := hI
                obtain ⟨u0, u1, u2, u3, u4, u5, u6, u7, u8, u9, u10, u11, u12, rfl⟩ := len13 hus
                have e1 : u1 = .pointer (some ⟨m, 0, none⟩) := hI.val 1 _ rfl (gen_after 1 (by kernel_rfl) hbp)
                subst e1
                have HI := Veil.mk hI
                clear hI
                rw [ha]
                simp only [puts, setAll, List.setIfInBounds_toArray, List.set_cons_zero, List.set_cons_succ]
                go_simp
                exact hK _ _ (chain_step HI.out hus hbs 2 _ (by show 2 < 13; decide) rfl hbp (val_of rfl rfl) (HI.out.ph.step 2 _ (by decide) (by decide)) (by simp only [puts, setAll, List.set_cons_zero, List.set_cons_succ, List.setIfInBounds_toArray]))
              refine Steps.cons rfl (fun bb aa w' hbs hb0 hbp hI K hK => ?_) ?_
              · obtain ⟨us, hus, ha, hI⟩ := hI
                obtain ⟨u0, u1, u2, u3, u4, u5, u6, u7, u8, u9, u10, u11, u12, rfl⟩ := len13 hus
                have e2 : u2 = .pointer (some ⟨m, 0, none⟩) := hI.val 2 _ rfl (gen_after 2 (by kernel_rfl) hbp)
                subst e2
                have gb := (hI.bwd [3] 12 3 (by kernel_rfl) rfl hb0)
                obtain ⟨sg, hlo, hhi, hst⟩ := hI.ph.btw 0 1 (.inl rfl) (.inr ⟨12, rfl, gb⟩)
                have hbl := CSt.bel (by omega) hst
                clear hst
                have c0 := HCC.out.1 w' hbl
                clear gb
                have HI := Veil.mk hI
                clear hI
                rw [ha]
                simp only [puts, setAll, List.setIfInBounds_toArray, List.set_cons_zero, List.set_cons_succ]
                go_simp
                exact hK _ _ (chain_step HI.out hus hbs 3 _ (by show 3 < 13; decide) rfl hbp (val_of rfl rfl) (HI.out.ph.step 3 _ (by decide) (by decide)) (by simp only [puts, setAll, List.set_cons_zero, List.set_cons_succ, List.setIfInBounds_toArray]))
              refine Steps.cons rfl (fun bb aa w' hbs hb0 hbp hI K hK => ?_) ?_
              · obtain ⟨us, hus, ha, hI⟩ := hI
                obtain ⟨u0, u1, u2, u3, u4, u5, u6, u7, u8, u9, u10, u11, u12, rfl⟩ := len13 hus
                have gb := (hI.bwd [4] 12 4 (by kernel_rfl) rfl hb0)
                obtain ⟨sg, hlo, hhi, hst⟩ := hI.ph.btw 0 1 (.inl rfl) (.inr ⟨12, rfl, gb⟩)
                have hbl := CSt.bel (by omega) hst
                clear hst
                obtain ⟨c0, c1, c2⟩ := HCC.out.2 w' hbl
                clear gb
                have HI := Veil.mk hI
                clear hI
                rw [ha]
                simp only [puts, setAll, List.setIfInBounds_toArray, List.set_cons_zero, List.set_cons_succ]
                go_simp
                exact hK _ _ (chain_step HI.out hus hbs 4 _ (by show 4 < 13; decide) rfl hbp (val_of rfl rfl) (HI.out.ph.step 4 _ (by decide) (by decide)) (by simp only [puts, setAll, List.set_cons_zero, List.set_cons_succ, List.setIfInBounds_toArray]))
              refine Steps.cons rfl (fun bb aa w' hbs hb0 hbp hI K hK => ?_) ?_
              · obtain ⟨us, hus, ha, hI⟩ := hI
                obtain ⟨u0, u1, u2, u3, u4, u5, u6, u7, u8, u9, u10, u11, u12, rfl⟩ := len13 hus
                have e3 : u3 = .pointer (some ⟨h, 0, none⟩) := hI.val 3 _ rfl (gen_after 3 (by kernel_rfl) hbp)
                subst e3
                have e4 : u4 = valV (9, (os.length : Int) + 1, ⟨#[]⟩) := hI.val 4 _ rfl (gen_after 4 (by kernel_rfl) hbp)
                subst e4
                have gb := (hI.bwd [5] 12 5 (by kernel_rfl) rfl hb0)
                obtain ⟨sg, hlo, hhi, hst⟩ := hI.ph.btw 0 1 (.inl rfl) (.inr ⟨12, rfl, gb⟩)
                have HOFX := Veil.mk (HOF.out w' (CSt.bel (by omega) hst))
                clear hst
                clear gb
                have HI := Veil.mk hI
                clear hI
                rw [ha]
                simp only [puts, setAll, List.setIfInBounds_toArray, List.set_cons_zero, List.set_cons_succ]
                go_simp
                go_at_call 7
                refine HOFX.out.mono ?_
                rintro e9 w9 ⟨rfl, hb9⟩
                go_simp
                exact hK _ _ (chain_step HI.out hus hbs 5 _ (by show 5 < 13; decide) rfl hbp (val_of rfl rfl) (HI.out.ph.light 5 _ (by decide) (by decide) (fun s f h => CSt.on hb9 h)) (by simp only [puts, setAll, List.set_cons_zero, List.set_cons_succ, List.setIfInBounds_toArray]))
              refine Steps.cons rfl (fun bb aa w' hbs hb0 hbp hI K hK => ?_) ?_
              · obtain ⟨us, hus, ha, hI⟩ := hI
                obtain ⟨u0, u1, u2, u3, u4, u5, u6, u7, u8, u9, u10, u11, u12, rfl⟩ := len13 hus
                have gb := (hI.bwd [6] 9 6 (by kernel_rfl) rfl hb0)
                have hst := hI.ph.btw1 0 (.inl rfl) (.inr ⟨9, rfl, gb⟩)
                have hbl := CSt.bel (by omega) hst
                clear hst
                obtain ⟨c0, c1, c2⟩ := HCC.out.2 w' hbl
                clear gb
                have HI := Veil.mk hI
                clear hI
                rw [ha]
                simp only [puts, setAll, List.setIfInBounds_toArray, List.set_cons_zero, List.set_cons_succ]
                go_simp
                exact hK _ _ (chain_step HI.out hus hbs 6 _ (by show 6 < 13; decide) rfl hbp (val_of rfl rfl) (HI.out.ph.step 6 _ (by decide) (by decide)) (by simp only [puts, setAll, List.set_cons_zero, List.set_cons_succ, List.setIfInBounds_toArray]))
              refine Steps.cons rfl (fun bb aa w' hbs hb0 hbp hI K hK => ?_) ?_
              · obtain ⟨us, hus, ha, hI⟩ := hI
                obtain ⟨u0, u1, u2, u3, u4, u5, u6, u7, u8, u9, u10, u11, u12, rfl⟩ := len13 hus
                have HI := Veil.mk hI
                clear hI
                rw [ha]
                simp only [puts, setAll, List.setIfInBounds_toArray, List.set_cons_zero, List.set_cons_succ]
                go_simp
                exact hK _ _ (chain_step HI.out hus hbs 7 _ (by show 7 < 13; decide) rfl hbp (val_of rfl rfl) (HI.out.ph.step 7 _ (by decide) (by decide)) (by simp only [puts, setAll, List.set_cons_zero, List.set_cons_succ, List.setIfInBounds_toArray]))
              refine Steps.cons rfl (fun bb aa w' hbs hb0 hbp hI K hK => ?_) ?_
              · obtain ⟨us, hus, ha, hI⟩ := hI
                obtain ⟨u0, u1, u2, u3, u4, u5, u6, u7, u8, u9, u10, u11, u12, rfl⟩ := len13 hus
                have HI := Veil.mk hI
                clear hI
                rw [ha]
                simp only [puts, setAll, List.setIfInBounds_toArray, List.set_cons_zero, List.set_cons_succ]
                go_simp
                exact hK _ _ (chain_step HI.out hus hbs 8 _ (by show 8 < 13; decide) rfl hbp (val_of rfl rfl) (HI.out.ph.step 8 _ (by decide) (by decide)) (by simp only [puts, setAll, List.set_cons_zero, List.set_cons_succ, List.setIfInBounds_toArray]))
              refine Steps.cons rfl (fun bb aa w' hbs hb0 hbp hI K hK => ?_) ?_
              · obtain ⟨us, hus, ha, hI⟩ := hI
                obtain ⟨u0, u1, u2, u3, u4, u5, u6, u7, u8, u9, u10, u11, u12, rfl⟩ := len13 hus
                have e6 : u6 = valV (9, (os.length : Int) + 1, ⟨#[]⟩) := hI.val 6 _ rfl (gen_after 6 (by kernel_rfl) hbp)
                subst e6
                have e7 : u7 = .agg #[.int .i64 10, .int .i64 0, .string ⟨#[]⟩] := hI.val 7 _ rfl (gen_after 7 (by kernel_rfl) hbp)
                subst e7
                have e8 : u8 = .agg #[.int .i64 0, .int .i64 0, .string ⟨#[]⟩] := hI.val 8 _ rfl (gen_after 8 (by kernel_rfl) hbp)
                subst e8
                have gb := hb0
                have hst := hI.ph.btw1 0 (.inl rfl) (.inr ⟨9, rfl, gb⟩)
                have HST := Veil.mk (show Below WD.heap.size WD w' from hst)
                clear hst
                clear gb
                have HI := Veil.mk hI
                clear hI
                rw [ha]
                simp only [puts, setAll, List.setIfInBounds_toArray, List.set_cons_zero, List.set_cons_succ]
                go_simp
                exact hK _ _ (chain_step HI.out hus hbs 9 (.slice (some ⟨w'.heap.size, 0, none⟩) 3 3) (by show 9 < 13; decide) rfl hbp (none_of rfl) (HI.out.ph.next 0 9 _ rfl hb0 (.inl rfl) (by decide) (show ∃ g, _ from ⟨w'.heap.size, rfl, HST.out.alloc HST.out.size _, three_row w' (9, (os.length : Int) + 1, ⟨#[]⟩) (10, 0, ⟨#[]⟩) (0, 0, ⟨#[]⟩)⟩)) (by simp only [puts, setAll, List.set_cons_zero, List.set_cons_succ, List.setIfInBounds_toArray]))
              refine Steps.cons rfl (fun bb aa w' hbs hb0 hbp hI K hK => ?_) ?_
              · obtain ⟨us, hus, ha, hI⟩ := hI
                obtain ⟨u0, u1, u2, u3, u4, u5, u6, u7, u8, u9, u10, u11, u12, rfl⟩ := len13 hus
                have e5 : u5 = .pointer (some ⟨b2, 0, none⟩) := hI.val 5 _ rfl (gen_after 5 (by kernel_rfl) hbp)
                subst e5
                have HI := Veil.mk hI
                clear hI
                rw [ha]
                simp only [puts, setAll, List.setIfInBounds_toArray, List.set_cons_zero, List.set_cons_succ]
                go_simp
                exact hK _ _ (chain_step HI.out hus hbs 10 _ (by show 10 < 13; decide) rfl hbp (val_of rfl rfl) (HI.out.ph.step 10 _ (by decide) (by decide)) (by simp only [puts, setAll, List.set_cons_zero, List.set_cons_succ, List.setIfInBounds_toArray]))
              refine Steps.cons rfl (fun bb aa w' hbs hb0 hbp hI K hK => ?_) ?_
              · obtain ⟨us, hus, ha, hI⟩ := hI
                obtain ⟨u0, u1, u2, u3, u4, u5, u6, u7, u8, u9, u10, u11, u12, rfl⟩ := len13 hus
                have e10 : u10 = .pointer (some ⟨b2, 0, none⟩) := hI.val 10 _ rfl (gen_after 10 (by kernel_rfl) hbp)
                subst e10
                have HI := Veil.mk hI
                clear hI
                rw [ha]
                simp only [puts, setAll, List.setIfInBounds_toArray, List.set_cons_zero, List.set_cons_succ]
                go_simp
                exact hK _ _ (chain_step HI.out hus hbs 11 _ (by show 11 < 13; decide) rfl hbp (val_of rfl rfl) (HI.out.ph.step 11 _ (by decide) (by decide)) (by simp only [puts, setAll, List.set_cons_zero, List.set_cons_succ, List.setIfInBounds_toArray]))
              refine Steps.cons rfl (fun bb aa w' hbs hb0 hbp hI K hK => ?_) ?_
              · obtain ⟨us, hus, ha, hI⟩ := hI
                obtain ⟨u0, u1, u2, u3, u4, u5, u6, u7, u8, u9, u10, u11, u12, rfl⟩ := len13 hus
                have e11 : u11 = .pointer (some ⟨b2, 4, none⟩) := hI.val 11 _ rfl (gen_after 11 (by kernel_rfl) hbp)
                subst e11
                have ga := (gen_after 9 (by kernel_rfl) hbp)
                have gb := hb0
                have hst := hI.ph.btw1 1 (.inr ⟨9, rfl, ga⟩) (.inr ⟨12, rfl, gb⟩)
                obtain ⟨g9, e9, hb9, hr9⟩ := hst
                replace e9 : u9 = .slice (some ⟨g9, 0, none⟩) 3 3 := e9
                subst e9
                have HST := Veil.mk (And.intro hb9 hr9)
                have hbx := (HMD.out.on hb9).ob (b2, arO (prF 21 2) ev2) (by simp)
                have c0 : w'.cell? ⟨b2, 4, none⟩ = some ev2 := hbx.at_ 4
                have f0 := hbx.free 4
                clear hbx hb9 hr9
                have HGA := Veil.mk ga
                clear ga gb
                have HI := Veil.mk hI
                clear hI
                rw [ha]
                simp only [puts, setAll, List.setIfInBounds_toArray, List.set_cons_zero, List.set_cons_succ]
                go_simp
                exact hK _ _ (chain_step HI.out hus hbs 12 undef (by show 12 < 13; decide) rfl hbp (none_of rfl) (HI.out.ph.next 1 12 _ rfl hb0 (.inr ⟨9, rfl, HGA.out⟩) (by decide) (CSt.fin HMD.out HST.out.1 HST.out.2)) (by simp only [puts, setAll, List.set_cons_zero, List.set_cons_succ, List.setIfInBounds_toArray]))
              exact Steps.nil
            · intro us wE hus dd hD2 hJ
              obtain ⟨p0, p1, p2, p3, p4, p5, p6, p7, p8, p9, p10, p11, p12, rfl⟩ := len13 hus
              have q1 := hJ.ph.all (fun c hc => hD2 c (by
                have : c = 9 ∨ c = 12 := by simpa using hc
                show c < 13
                omega))
              have e0 : p0 = .pointer (some ⟨m, 0, none⟩) := hJ.val 0 _ rfl (hD2 0 (by show 0 < 13; decide))
              subst e0
              have e1 : p1 = .pointer (some ⟨m, 0, none⟩) := hJ.val 1 _ rfl (hD2 1 (by show 1 < 13; decide))
              subst e1
              have e2 : p2 = .pointer (some ⟨m, 0, none⟩) := hJ.val 2 _ rfl (hD2 2 (by show 2 < 13; decide))
              subst e2
              have e3 : p3 = .pointer (some ⟨h, 0, none⟩) := hJ.val 3 _ rfl (hD2 3 (by show 3 < 13; decide))
              subst e3
              have e4 : p4 = valV (9, (os.length : Int) + 1, ⟨#[]⟩) := hJ.val 4 _ rfl (hD2 4 (by show 4 < 13; decide))
              subst e4
              have e5 : p5 = .pointer (some ⟨b2, 0, none⟩) := hJ.val 5 _ rfl (hD2 5 (by show 5 < 13; decide))
              subst e5
              have e6 : p6 = valV (9, (os.length : Int) + 1, ⟨#[]⟩) := hJ.val 6 _ rfl (hD2 6 (by show 6 < 13; decide))
              subst e6
              have e7 : p7 = .agg #[.int .i64 10, .int .i64 0, .string ⟨#[]⟩] := hJ.val 7 _ rfl (hD2 7 (by show 7 < 13; decide))
              subst e7
              have e8 : p8 = .agg #[.int .i64 0, .int .i64 0, .string ⟨#[]⟩] := hJ.val 8 _ rfl (hD2 8 (by show 8 < 13; decide))
              subst e8
              have e10 : p10 = .pointer (some ⟨b2, 0, none⟩) := hJ.val 10 _ rfl (hD2 10 (by show 10 < 13; decide))
              subst e10
              have e11 : p11 = .pointer (some ⟨b2, 4, none⟩) := hJ.val 11 _ rfl (hD2 11 (by show 11 < 13; decide))
              subst e11
              clear hJ hD2
              have HQ2 := Veil.mk q1
              clear q1
              simp only [puts, setAll, List.setIfInBounds_toArray, List.set_cons_zero, List.set_cons_succ]
              obtain ⟨ev, hm5, hr5, hb5, hk5⟩ := HQ2.out
              have hnE : Nest wE vb (prF 21 2) (os ++ [(b2, arO (prF 21 2) ev)]) k v := by
                refine Nest.more (fun ev l hr hg => (((hr.kp H4.out.2.2 rfl).on HXD.out.1).kp hk5 rfl)) (fun i o ho => ?_) k v HD.out.ne
                rw [List.getElem?_append_left (List.getElem?_eq_some_iff.1 ho).1]
                exact ho
              have hbv : Box wE vb 26 #[.int .i64 v.1, .int .i64 v.2.1, .string v.2.2] := hk5.box ((H4.out.2.2.box HD.out.bx rfl).below HXD.out.1) rfl
              have hba : Box wE w4.heap.size 26 #[.int .i64 9, .int .i64 ((os.length : Int) + 1), .string ⟨#[]⟩] := hk5.box HXD.out.2 rfl
              have HSV := Veil.mk (show_shown hm5.cell0 hm5.mb.lt v _ (hnE.shown hm5 3 k v (Nat.le_refl _) (by omega)))
              have HSA : Veil (∀ W, Below wE.heap.size wE W → Calls Tryd.prog 8 #[.pointer (some ⟨m, 0, none⟩), valV (9, (os.length : Int) + 1, ⟨#[]⟩)] W fun e w' => e = .returned (.string circS) ∧ Below W.heap.size W w') := ⟨fun W hb => show_shown (hm5.on hb).cell0 (hm5.on hb).mb.lt _ _ (circ_shown ((hm5.on hb).last (hr5.on hb) (by show 3 ≤ 1000000; omega)))⟩
              have HBE : Veil (Below w.heap.size w wE) := ⟨by
                have g1 := HD.out.bel.trans (H4.out.2.1.mono HD.out.lo)
                have g2 := g1.trans (HXD.out.1.mono g1.size)
                exact g2.trans (hb5.mono HD.out.lo)⟩
              have x0 : wE.cell? ⟨vb, 0, none⟩ = some (.int .i64 v.1) := hbv.at_ 0
              have x1 : wE.cell? ⟨vb, 1, none⟩ = some (.int .i64 v.2.1) := hbv.at_ 1
              have x2 : wE.cell? ⟨vb, 2, none⟩ = some (.string v.2.2) := hbv.at_ 2
              have HBA : Veil (Box wE w4.heap.size 26 #[.int .i64 9, .int .i64 ((os.length : Int) + 1), .string ⟨#[]⟩]) := ⟨hba⟩
              obtain ⟨ws, hws⟩ : ∃ ws, wantS 3 k = ws := ⟨_, rfl⟩
              obtain ⟨ab, hab⟩ : ∃ ab, w4.heap.size = ab := ⟨_, rfl⟩
              rw [hws] at HSV ⊢
              rw [hab] at HBA ⊢
              clear hm5 hr5 hb5 hk5 hnE hbv hba hws hab HQ2 HMD HCC HOF HXD HWD
              go_wp2_with (first | (go_at_call 8; ((with_reducible refine HSV.out.mono ?_); rintro e w6 ⟨rfl, hb6⟩; have HSA2 := Veil.mk (HSA.out w6 hb6); have y0 : w6.cell? ⟨ab, 0, none⟩ = some (.int .i64 9) := (HBA.out.below hb6).at_ 0; have y1 : w6.cell? ⟨ab, 1, none⟩ = some (.int .i64 ((os.length : Int) + 1)) := (HBA.out.below hb6).at_ 1; have y2 : w6.cell? ⟨ab, 2, none⟩ = some (.string ⟨#[]⟩) := (HBA.out.below hb6).at_ 2; have HB6 := Veil.mk (HBE.out.trans (hb6.mono HBE.out.size)); clear hb6)) | (go_at_call 8; ((with_reducible refine HSA2.out.mono ?_); rintro e w7 ⟨rfl, hb7⟩)))
              go_ret
              exact ⟨ret_bool (by decide +kernel), HB6.out.trans (hb7.mono HB6.out.size)⟩
end Go.Proofs.YtgdkjkfbknbgkaaDoor
