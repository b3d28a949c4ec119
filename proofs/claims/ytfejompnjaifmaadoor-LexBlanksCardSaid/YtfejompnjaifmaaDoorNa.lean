/- LexBlanks: the walk. -/
import Derived.Test.YtfejompnjaifmaaDoorLt
import Derived.Test.YtfejompnjaifmaaDoorLn
import Derived.Test.YtfejompnjaifmaaDoorLu
import Derived.BigRegion
import Derived.Test.YtfejompnjaifmaaDoorIr
namespace Go.Proofs.YtfejompnjaifmaaDoor
open Go Go.RowKit

def pkN (l : List Int) (i : Nat) : Nat := if i < l.length then (bits .and .i64 (l[i]?.getD 0) 3).toNat else 0
theorem and3 (z : Int) : bits .and .i64 z 3 = ((bits .and .i64 z 3).toNat : Int) ∧ (bits .and .i64 z 3).toNat < 4 := by
  obtain ⟨q, hq, hlt⟩ := mask 2 (by omega) z
  have hq : bits .and .i64 z 3 = (q : Int) := hq
  rw [hq]
  exact ⟨by simp, by simpa using hlt⟩
theorem pkN_lt (l : List Int) (i : Nat) : pkN l i < 4 := by
  unfold pkN
  split
  · exact (and3 _).2
  · omega
set_option maxHeartbeats 1000000 in
set_option maxRecDepth 100000 in
theorem pick_any (a : Option Addr) (n cap : Nat) (l : List Int) (i : Nat) (w : World) (hN : Ints w a n l) :
    Calls Tryd.prog 8 #[.slice a n cap, .int .i64 (i : Int)] w (fun e w' => e = .returned (.int .i64 (pkN l i : Int)) ∧ w' = w) := by
  have hl := hN.1
  have h0 : (0 : Int) ≤ (i : Int) := by omega
  by_cases hi : i < n
  · have hi' : (i : Int) < (n : Int) := by omega
    obtain ⟨b, o, rfl, hbl, hc⟩ := hN.2 (by omega)
    have hci := hc i hi
    have hpk : bits .and .i64 (l[i]?.getD 0) 3 = (pkN l i : Int) := by
      unfold pkN
      rw [if_pos (by omega)]
      exact (and3 _).1
    obtain ⟨z, hz⟩ : ∃ z, l[i]?.getD 0 = z := ⟨_, rfl⟩
    rw [hz] at hci hpk
    clear hc hz hN
    go_enter Tryd.func8, Tryd.ntmps8
    go_wp2
    go_ret
    exact ⟨rfl, rfl⟩
  · have hi' : ¬ (i : Int) < (n : Int) := by omega
    have hpk : pkN l i = 0 := by
      unfold pkN
      rw [if_neg (by omega)]
    rw [hpk]
    go_enter Tryd.func8, Tryd.ntmps8
    go_wp2
    go_ret
    exact ⟨rfl, rfl⟩
theorem scan_fault (s : By) (k a : Nat) (h : scanS s = .error (k, a)) : k = 2 ∨ k = 3 := by
  unfold scanS at h
  split at h
  · injection h with h
    injection h with h1 h2
    exact .inl h1.symm
  · cases hq : scanL ofL (s.length + 1) s 0 with
    | error e =>
      rw [hq] at h
      injection h with h
      injection h with h1 h2
      exact .inr h1.symm
    | ok us => rw [hq] at h; cases h
theorem scan_small : ∀ (f : Nat) (l : By) (p : Nat) (ts : List (Tk × Nat)), scanL ofL f l p = .ok ts → ts.length ≤ f ∧ ∀ t ∈ ts, t.1.kind ≠ 4 → t.1.text.length ≤ l.length
  | 0, l, p, ts, h => by cases h
  | f + 1, l, p, ts, h => by
    unfold scanL at h
    split at h
    · cases h
    · split at h
      · injection h with h
        subst h
        refine ⟨Nat.le_add_left _ _, fun t ht _ => ?_⟩
        rw [List.mem_singleton.1 ht]
        exact Nat.zero_le _
      · split at h
        · cases h
        · rename_i t ht
          have hlen := next_len ofL _ t ht
          split at h
          · cases h
          · rename_i vs hvs
            injection h with h
            subst h
            obtain ⟨h1, h2⟩ := scan_small f _ _ _ hvs
            rw [List.length_drop] at h2 hlen
            refine ⟨by rw [List.length_cons]; omega, fun u hu h4 => ?_⟩
            rcases List.mem_cons.1 hu with rfl | hu
            · have := (good_of _ t ht h4).len
              show t.text.length ≤ _
              omega
            · have := h2 u hu h4
              omega
theorem scan_bounds (s : By) (ts : List (Tk × Nat)) (h : scanS s = .ok ts) : ts.length ≤ s.length + 1 ∧ ∀ t ∈ ts, t.1.kind ≠ 4 → t.1.text.length ≤ s.length := by
  unfold scanS at h
  split at h
  · cases h
  · cases hq : scanL ofL (s.length + 1) s 0 with
    | error e => rw [hq] at h; cases h
    | ok us =>
      rw [hq] at h
      injection h with h
      subst h
      have := scan_small _ _ _ _ hq
      exact this
theorem tk_at : ∀ (ts : List (Tk × Nat)) (k : Nat) (t : Tk × Nat), ts[k]? = some t → ∀ j, j < 4 → (tkFlat ts)[k * 4 + j]? = (tkC t)[j]?
  | [], k, t, h => by cases h
  | u :: ts, 0, t, h => by
    injection h with h
    subst h
    intro j hj
    show (tkC u ++ tkFlat ts)[0 * 4 + j]? = _
    rw [Nat.zero_mul, Nat.zero_add, List.getElem?_append_left (by exact hj)]
  | u :: ts, k + 1, t, h => by
    intro j hj
    show (tkC u ++ tkFlat ts)[(k + 1) * 4 + j]? = _
    rw [List.getElem?_append_right (by show 4 ≤ _; omega), ← tk_at ts k t (by simpa using h) j hj]
    congr 1
    show _ - 4 = _
    omega
/-- A row of tokens has a token's cells. -/
theorem tk_cells {w : World} {B g cap : Nat} {ts : List (Tk × Nat)} (h : w.ownsRow B 31 4 (.slice (some ⟨g, 0, none⟩) ts.length cap) ts.length (tkFlat ts)) (k : Nat) (t : Tk × Nat) (hk : ts[k]? = some t) :
    w.cell? ⟨g, k * 4, none⟩ = some (.int .i64 (t.1.kind : Int)) ∧ w.cell? ⟨g, k * 4 + 1, none⟩ = some (.string ⟨t.1.text.toArray⟩) ∧ w.cell? ⟨g, k * 4 + 2, none⟩ = some (.int .i64 (t.2 : Int)) ∧ w.cell? ⟨g, k * 4 + 3, none⟩ = some (.int .i64 t.1.n) := by
  have hlt : k < ts.length := (List.getElem?_eq_some_iff.1 hk).1
  refine ⟨?_, ?_, ?_, ?_⟩
  · rw [h.cellAt (k * 4) (by omega)]; exact tk_at ts k t hk 0 (by omega)
  · rw [h.cellAt (k * 4 + 1) (by omega)]; exact tk_at ts k t hk 1 (by omega)
  · rw [h.cellAt (k * 4 + 2) (by omega)]; exact tk_at ts k t hk 2 (by omega)
  · rw [h.cellAt (k * 4 + 3) (by omega)]; exact tk_at ts k t hk 3 (by omega)
/-- What stands between. -/
def sepB (k : Nat) : ByteArray := ⟨(sepL k).toArray⟩
abbrev seps : Array Value := #[.string ⟨#[32]⟩, .string ⟨#[10]⟩, .string ⟨#[47, 42, 32, 99, 32, 42, 47]⟩, .string ⟨#[47, 47, 32, 99, 10]⟩]
theorem seps_at (k : Nat) (hk : k < 4) : seps[k]? = some (.string (sepB k)) := by
  obtain rfl | rfl | rfl | rfl : k = 0 ∨ k = 1 ∨ k = 2 ∨ k = 3 := by omega
  · rfl
  · rfl
  · rfl
  · rfl
def spB2 (pk : Nat → Nat) (us : List Tk) : ByteArray := ⟨(spL pk 0 us).toArray⟩
theorem spB2_size (pk : Nat → Nat) (us : List Tk) : (spB2 pk us).size = (spL pk 0 us).length := by
  show (spL pk 0 us).toArray.size = _
  simp
theorem spB2_add (pk : Nat → Nat) (us : List Tk) (t : Tk) : spB2 pk us ++ ((⟨t.text.toArray⟩ ++ ⟨#[32]⟩) ++ sepB (pk us.length)) = spB2 pk (us ++ [t]) := by
  apply by_inj
  rw [Joins.data_append, Joins.data_append, Joins.data_append]
  show spL pk 0 us ++ ((t.text ++ [32]) ++ sepL (pk us.length)) = spL pk 0 (us ++ [t])
  rw [spL_app, Nat.zero_add]
  show _ = spL pk 0 us ++ (t.text ++ 32 :: (sepL (pk us.length) ++ []))
  simp
theorem flat_le : ∀ (us : List Tk) (n : Nat), (∀ t ∈ us, t.text.length ≤ n) → (us.flatMap (·.text)).length ≤ us.length * n
  | [], n, _ => by simp
  | t :: us, n, h => by
    have h1 := flat_le us n (fun t ht => h t (by simp [ht]))
    have h2 := h t (by simp)
    rw [List.flatMap_cons, List.length_append, List.length_cons, Nat.add_mul]
    omega
def IsPtr (T : TypeId) (o : Nat) (cs : Array Value) : Value → World → Prop := fun v w => ∃ g, v = .pointer (some ⟨g, o, none⟩) ∧ Box w g T cs
theorem keeps_ptr (T : TypeId) (o : Nat) (cs : Array Value) : Keeps (IsPtr T o cs) := fun _ _ _ ⟨g, h, hb⟩ hB => ⟨g, h, hb.on hB hb.lt⟩
theorem len13 {α : Type} {us : List α} (h : us.length = 13) : ∃ a0 a1 a2 a3 a4 a5 a6 a7 a8 a9 a10 a11 a12, us = [a0, a1, a2, a3, a4, a5, a6, a7, a8, a9, a10, a11, a12] := by
  match us, h with
  | [a0, a1, a2, a3, a4, a5, a6, a7, a8, a9, a10, a11, a12], _ => exact ⟨a0, a1, a2, a3, a4, a5, a6, a7, a8, a9, a10, a11, a12, rfl⟩
set_option maxHeartbeats 4000000 in
set_option maxRecDepth 100000 in
theorem blanks_law (s : ByteArray) (a : Option Addr) (n cap : Nat) (l : List Int) (w : World) (hG : Gl w) (hN : Ints w a n l) :
    Calls Tryd.prog 3 #[.string s, .slice a n cap] w (BelPost w (.bool true)) := by
  have HG := Veil.mk hG
  have HN := Veil.mk hN
  have HFT : Veil (∀ w, Gl w → Calls Tryd.prog 6 #[] w (BelPost w (.bool true))) := ⟨fit_any⟩
  have hln := hN.1
  clear hG hN
  have hss : s.data.toList.length = s.size := Array.length_toList
  by_cases hbig : 1000 < s.size
  · have hbig' : (1000 : Int) < (s.size : Int) := by omega
    go_enter Tryd.func3, Tryd.ntmps3
    go_wp2_with (first | (go_at_call 6; ((with_reducible refine (HFT.out _ HG.out).mono ?_); rintro e9 w1 ⟨rfl, hb1⟩; have HB1 := Veil.mk hb1; clear hb1)))
    go_ret
    exact ⟨rfl, HB1.out⟩
  have hbig' : ¬ (1000 : Int) < (s.size : Int) := by omega
  cases hsc : scanS s.data.toList with
  | error ka =>
    obtain ⟨kf, af⟩ := ka
    have HK := Veil.mk (scan_fault _ _ _ hsc)
    have HSC : Veil (∀ w, Gl w → Calls Tryd.prog 7 #[.string s] w (BelPost w (.tuple #[.slice none 0 0, .agg #[.int .i64 (kf : Int), .int .i64 (af : Int)]]))) := ⟨fun w hg => (scan_any s (by omega) w hg).mono (by
      rintro e w' ⟨hb, h⟩
      rw [hsc] at h
      rcases h with ⟨k, a, h1, h3⟩ | ⟨ts, g, cap, h1, _⟩
      · injection h1 with h1
        injection h1 with h1 h4
        subst h1 h4
        exact ⟨h3, hb⟩
      · cases h1)⟩
    clear hsc
    have hk0 : ((kf : Int) == 0) = false := beq_eq_false_iff_ne.2 (by have := HK.out; omega)
    have hk1 : ((kf : Int) != 0) = true := bne_iff_ne.2 (by have := HK.out; omega)
    go_enter Tryd.func3, Tryd.ntmps3
    go_upto_region 5 with (first | (go_at_call 6; ((with_reducible refine (HFT.out _ HG.out).mono ?_); rintro e9 w1 ⟨rfl, hb1⟩; have HB1 := Veil.mk hb1; clear hb1)))
    have HG1 : Veil (Gl w1) := ⟨HG.out.on HB1.out⟩
    go_wp2_with (first | (go_at_call 7; ((with_reducible refine (HSC.out _ HG1.out).mono ?_); rintro e9 w2 ⟨rfl, hb2⟩; have HB2 := Veil.mk hb2; clear hb2)))
    go_ret
    exact ⟨rfl, HB1.out.trans ((HB2.out.mono HB1.out.size).alloc (Nat.le_trans HB1.out.size HB2.out.size) _)⟩
  | ok ts =>
    have HSC : Veil (∀ w, Gl w → Calls Tryd.prog 7 #[.string s] w fun e w' => ∃ g cap, e = .returned (.tuple #[.slice (some ⟨g, 0, none⟩) ts.length cap, .agg #[.int .i64 0, .int .i64 0]]) ∧ Below w.heap.size w w' ∧ w'.ownsRow w.heap.size 31 4 (.slice (some ⟨g, 0, none⟩) ts.length cap) ts.length (tkFlat ts)) := ⟨fun w hg => (scan_any s (by omega) w hg).mono (by
      rintro e w' ⟨hb, h⟩
      rw [hsc] at h
      rcases h with ⟨k, a, h1, _⟩ | ⟨ts', g, cap, h1, h2, h3⟩
      · cases h1
      · injection h1 with h1
        subst h1
        exact ⟨g, cap, h2, hb, h3⟩)⟩
    have HBD := Veil.mk (scan_bounds _ _ hsc)
    have HTL : ts.length ≤ 1001 := by have := HBD.out.1; omega
    have HBL : Veil ((∀ t ∈ ts, t.1.kind ≠ 4) → (spL (pkN l) 0 (ts.map (·.1))).length ≤ 10000 ∧ ∃ us : List (Tk × Nat), scanS (spL (pkN l) 0 (ts.map (·.1))) = .ok us ∧ us.map (fun v => view v.1) = ts.map (fun v => view v.1)) := ⟨fun h => blanks_scan (pkN l) s.data.toList ts (by omega) hsc h⟩
    have HPK : Veil (∀ i, ∀ w, Ints w a n l → Calls Tryd.prog 8 #[.slice a n cap, .int .i64 ((i : Nat) : Int)] w (fun e w' => e = .returned (.int .i64 (pkN l i : Int)) ∧ w' = w)) := ⟨fun i w h => pick_any a n cap l i w h⟩
    have HSS := Veil.mk hss
    clear hsc hss hln
    go_enter Tryd.func3, Tryd.ntmps3
    go_upto_region 5 with (first | (go_at_call 6; ((with_reducible refine (HFT.out _ HG.out).mono ?_); rintro e9 w1 ⟨rfl, hb1⟩; have HB1 := Veil.mk hb1; clear hb1)))
    have HG1 : Veil (Gl w1) := ⟨HG.out.on HB1.out⟩
    have HN1 : Veil (Ints w1 a n l) := ⟨HN.out.on HB1.out⟩
    go_upto_region 6 with (first | (go_at_call 7; ((with_reducible refine (HSC.out _ HG1.out).mono ?_); rintro e9 w2 ⟨g, ca1, rfl, hb2, ho2⟩)))
    have hb3 : Below w1.heap.size w1 (w2.alloc (.cells #[.int .i64 0, .int .i64 0] 27)) := hb2.alloc hb2.size _
    have ho3 := ho2.alloc (.cells #[.int .i64 0, .int .i64 0] 27)
    have bf : Box (w2.alloc (.cells #[.int .i64 0, .int .i64 0] 27)) w2.heap.size 27 #[.int .i64 0, .int .i64 0] := Box.new _ _ _
    generalize w2.alloc (.cells #[.int .i64 0, .int .i64 0] 27) = W3 at hb3 ho3 bf ⊢
    have c0 : W3.cell? ⟨w2.heap.size, 0, none⟩ = some (.int .i64 0) := bf.at_ 0
    have HB3 := Veil.mk hb3
    have HO3 := Veil.mk ho3
    have HG3 : Veil (Gl W3) := ⟨HG1.out.on hb3⟩
    have HN3 : Veil (Ints W3 a n l) := ⟨HN1.out.on hb3⟩
    clear hb2 ho2 hb3 ho3 bf
    go_upto_region 10 with (fail)
    go_loopw [7, 31] (fun tv i wr => ∃ k : Nat, k ≤ ts.length ∧ i = .int .i64 (k : Int) ∧ tv = .string (spB2 (pkN l) ((ts.take k).map (·.1))) ∧ Veil (∀ t ∈ ts.take k, t.1.kind ≠ 4) ∧ Veil (Below W3.heap.size W3 wr)) (fun _ i _ => ts.length - (intOf i).toNat)
    case atStart => exact ⟨0, Nat.zero_le _, rfl, rfl, ⟨fun t ht => by cases ht⟩, ⟨Below.refl _ _⟩⟩
    case round =>
      obtain ⟨k, hk, rfl, rfl, HNO, HBE⟩ := hrel
      have hk0 : (0 : Int) ≤ (k : Int) := by omega
      have HOr : Veil (wr.ownsRow w1.heap.size 31 4 (.slice (some ⟨g, 0, none⟩) ts.length ca1) ts.length (tkFlat ts)) := ⟨own_touch HO3.out (Touch.of_below (S := fun _ => False) HBE.out) (fun _ _ h => h)⟩
      by_cases hkn : k < ts.length
      · have hkn' : (k : Int) < (ts.length : Int) := by omega
        obtain ⟨tk, htk⟩ : ∃ tk, ts[k]? = some tk := ⟨_, List.getElem?_eq_getElem hkn⟩
        obtain ⟨hc0, hc1, hc2, hc3⟩ := tk_cells HOr.out k tk htk
        have HMEM : Veil (tk ∈ ts) := ⟨List.mem_of_getElem? htk⟩
        have HTK : Veil (ts.take (k + 1) = ts.take k ++ [tk]) := ⟨by rw [List.take_add_one, htk]; rfl⟩
        have HLK : Veil (((ts.take k).map (·.1)).length = k) := ⟨by rw [List.length_map, List.length_take, Nat.min_eq_left hk]⟩
        clear htk
        obtain ⟨⟨kd, tx, nn, ln⟩, ap⟩ := tk
        simp only at hc0 hc1 hc2 hc3
        obtain ⟨L, hL⟩ : ∃ L, (ts.take k).map (·.1) = L := ⟨_, rfl⟩
        obtain ⟨T, hT⟩ : ∃ T : ByteArray, (⟨tx.toArray⟩ : ByteArray) = T := ⟨_, rfl⟩
        have HT := Veil.mk hT
        rw [hT] at hc1
        clear hT
        go_upto_region 12 with (fail)
        have bx : Box (wr.alloc (.cells #[.int .i64 (kd : Int), .string T, .int .i64 (ap : Int), .int .i64 nn] 31)) wr.heap.size 31 #[.int .i64 (kd : Int), .string T, .int .i64 (ap : Int), .int .i64 nn] := Box.new _ _ _
        have hb4 : Below wr.heap.size wr (wr.alloc (.cells #[.int .i64 (kd : Int), .string T, .int .i64 (ap : Int), .int .i64 nn] 31)) := (Below.refl _ _).alloc (Nat.le_refl _) _
        skip
        generalize wr.alloc (.cells #[.int .i64 (kd : Int), .string T, .int .i64 (ap : Int), .int .i64 nn] 31) = W4 at bx hb4 ⊢
        have HB4 : Veil (Below W3.heap.size W3 W4) := ⟨HBE.out.trans (hb4.mono HBE.out.size)⟩
        have HN4 : Veil (Ints W4 a n l) := ⟨HN3.out.on HB4.out⟩
        have d0 : W4.cell? ⟨wr.heap.size, 0, none⟩ = some (.int .i64 (kd : Int)) := bx.at_ 0
        have D1 : Veil (W4.cell? ⟨wr.heap.size, 1, none⟩ = some (.string T)) := ⟨bx.at_ 1⟩
        have LX : Veil (wr.heap.size < W4.heap.size) := ⟨bx.lt⟩
        clear hc0 hc1 hc2 hc3 hb4 bx
        by_cases h4 : kd = 4
        · subst h4
          go_wp2
          go_ret
          exact ⟨rfl, HB1.out.trans ((HB3.out.trans (HB4.out.mono HB3.out.size)).mono HB1.out.size)⟩
        · have h4' : ((kd : Int) == 4) = false := beq_eq_false_iff_ne.2 (by omega)
          have HTX : T.size ≤ 1000 := by
            have := HBD.out.2 _ HMEM.out (by exact h4)
            rw [HSS.out] at this
            rw [← HT.out]
            show tx.toArray.size ≤ _
            simp only [List.size_toArray]
            simp only at this
            omega
          have HNO2 : Veil (∀ t ∈ ts.take (k + 1), t.1.kind ≠ 4) := ⟨by
            rw [HTK.out]
            intro t ht
            rcases List.mem_append.1 ht with ht | ht
            · exact HNO.out t ht
            · rw [List.mem_singleton.1 ht]
              exact h4⟩
          have HLS : (spB2 (pkN l) L).size ≤ 2000000 := by
            rw [spB2_size, ← hL]
            have h1 := spL_len (pkN l) ((ts.take k).map (·.1)) 0
            have h2 := flat_le ((ts.take k).map (·.1)) 1000 (fun t ht => by
              obtain ⟨u, hu, rfl⟩ := List.mem_map.1 ht
              have := HBD.out.2 u (List.mem_of_mem_take hu) (HNO.out u hu)
              rw [HSS.out] at this
              omega)
            have h3 := HLK.out
            rw [h3] at h1 h2
            omega
          have HADD : Veil (spB2 (pkN l) L ++ ((T ++ ⟨#[32]⟩) ++ sepB (pkN l k)) = spB2 (pkN l) ((ts.take (k + 1)).map (·.1))) := ⟨by
            have h := spB2_add (pkN l) L ⟨kd, tx, nn, ln⟩
            rw [HTK.out, List.map_append, hL, ← HT.out]
            rw [← hL, HLK.out, hL] at h
            exact h⟩
          have hpl := pkN_lt l k
          have HSEP := Veil.mk (seps_at (pkN l k) hpl)
          have hses : (sepB (pkN l k)).size ≤ 7 := by
            show (sepL (pkN l k)).toArray.size ≤ 7
            simp only [List.size_toArray]
            exact (sepL_len _).2
          rw [hL]
          obtain ⟨q, hq⟩ : ∃ q, pkN l k = q := ⟨_, rfl⟩
          have HPQ := HPK.out k
          rw [hq] at HSEP hses hpl HADD HPQ
          have HPQ := Veil.mk HPQ
          obtain ⟨Sb, hSb⟩ : ∃ Sb, spB2 (pkN l) L = Sb := ⟨_, rfl⟩
          rw [hSb] at HLS HADD ⊢
          obtain ⟨P, hP⟩ : ∃ P, sepB q = P := ⟨_, rfl⟩
          rw [hP] at HSEP hses HADD
          have hz0 : (T ++ (⟨#[32]⟩ : ByteArray)).size = T.size + 1 := ByteArray.size_append
          have hz1 : ((T ++ (⟨#[32]⟩ : ByteArray)) ++ P).size = T.size + 1 + P.size := by rw [ByteArray.size_append, hz0]
          have hq1 : (q : Int) < 4 := by omega
          have hq0 : (0 : Int) ≤ (q : Int) := by omega
          clear hSb hP hL hq HMEM
          have HREL : Veil (∀ W' : World, Below W4.heap.size W4 W' → (∃ k' : Nat, k' ≤ ts.length ∧ Value.int .i64 ((k : Int) + 1) = .int .i64 (k' : Int) ∧ Value.string (Sb ++ ((T ++ ⟨#[32]⟩) ++ P)) = .string (spB2 (pkN l) ((ts.take k').map (·.1))) ∧ Veil (∀ t ∈ ts.take k', t.1.kind ≠ 4) ∧ Veil (Below W3.heap.size W3 W')) ∧ ts.length - (intOf (Value.int .i64 ((k : Int) + 1))).toNat < ts.length - (intOf (Value.int .i64 (k : Int))).toNat) := ⟨fun W' hb => ⟨⟨k + 1, by omega, by go_num, by rw [HADD.out], HNO2, ⟨HB4.out.trans (hb.mono HB4.out.size)⟩⟩, by simp [intOf]; omega⟩⟩
          go_upto_region 14 with (fail)
          have hks : KeepsAll (Is (.string Sb) :: Is (.pointer (some ⟨wr.heap.size, 1, none⟩)) :: Is (.string T) :: Is (.string (T ++ ⟨#[32]⟩)) :: (IsRow 9 4 seps) :: Is (.slice a n cap) :: Is (.int .i64 (k : Int)) :: Is (.int .i64 (q : Int)) :: (IsPtr 9 q seps) :: Is (.string P) :: Is (.string ((T ++ ⟨#[32]⟩) ++ P)) :: Is (.string (Sb ++ ((T ++ ⟨#[32]⟩) ++ P))) :: Is (.string (Sb ++ ((T ++ ⟨#[32]⟩) ++ P))) :: [] : List (Value → World → Prop)) := ⟨keeps_is _, keeps_is _, keeps_is _, keeps_is _, keeps_row _ _ _, keeps_is _, keeps_is _, keeps_is _, keeps_ptr _ _ _, keeps_is _, keeps_is _, keeps_is _, keeps_is _, trivial⟩
          refine wp_region_rf (Is (.string Sb) :: Is (.pointer (some ⟨wr.heap.size, 1, none⟩)) :: Is (.string T) :: Is (.string (T ++ ⟨#[32]⟩)) :: (IsRow 9 4 seps) :: Is (.slice a n cap) :: Is (.int .i64 (k : Int)) :: Is (.int .i64 (q : Int)) :: (IsPtr 9 q seps) :: Is (.string P) :: Is (.string ((T ++ ⟨#[32]⟩) ++ P)) :: Is (.string (Sb ++ ((T ++ ⟨#[32]⟩) ++ P))) :: Is (.string (Sb ++ ((T ++ ⟨#[32]⟩) ++ P))) :: [] : List (Value → World → Prop)) [some 39, some 40, some 41, some 42, some 43, some 44, some 45, some 46, some 47, some 48, some 49, some 50, some 7] (by kernel_rfl) rfl rfl ?_ (by kernel_rfl) ?_
          · refine Steps.cons rfl (fun bb aa w' hbs hb0 hbp hI K hK => ?_) ?_
            · obtain ⟨us, hus, rfl, hI⟩ := hI
              obtain ⟨u0, u1, u2, u3, u4, u5, u6, u7, u8, u9, u10, u11, u12, rfl⟩ := len13 hus
              have h12_0 := hI.before 12 0 _ rfl (by kernel_rfl) hb0
              have e12 : u12 = .string Sb := hI.init 12 h12_0
              subst e12
              clear h12_0
              have hch := hI.below
              have HI := Veil.mk hI
              clear hI
              simp only [puts, setAll, List.setIfInBounds_toArray, List.set_cons_zero, List.set_cons_succ]
              go_simp
              exact hK _ _ (rf_step HI.out hus hbs hks 0 _ _ (by show 0 < 13; decide) rfl rfl hbp rfl (Below.refl _ _) (by simp only [puts, setAll, List.set_cons_zero, List.set_cons_succ, List.setIfInBounds_toArray]))
            refine Steps.cons rfl (fun bb aa w' hbs hb0 hbp hI K hK => ?_) ?_
            · obtain ⟨us, hus, rfl, hI⟩ := hI
              obtain ⟨u0, u1, u2, u3, u4, u5, u6, u7, u8, u9, u10, u11, u12, rfl⟩ := len13 hus
              have hch := hI.below
              have HI := Veil.mk hI
              clear hI
              simp only [puts, setAll, List.setIfInBounds_toArray, List.set_cons_zero, List.set_cons_succ]
              go_simp
              exact hK _ _ (rf_step HI.out hus hbs hks 1 _ _ (by show 1 < 13; decide) rfl rfl hbp rfl (Below.refl _ _) (by simp only [puts, setAll, List.set_cons_zero, List.set_cons_succ, List.setIfInBounds_toArray]))
            refine Steps.cons rfl (fun bb aa w' hbs hb0 hbp hI K hK => ?_) ?_
            · obtain ⟨us, hus, rfl, hI⟩ := hI
              obtain ⟨u0, u1, u2, u3, u4, u5, u6, u7, u8, u9, u10, u11, u12, rfl⟩ := len13 hus
              have e1 : u1 = .pointer (some ⟨wr.heap.size, 1, none⟩) := hI.fact 1 _ rfl (gen_after 1 (by kernel_rfl) hbp)
              subst e1
              have hch := hI.below
              have HI := Veil.mk hI
              clear hI
              simp only [puts, setAll, List.setIfInBounds_toArray, List.set_cons_zero, List.set_cons_succ]
              have k0 : w'.cell? ⟨wr.heap.size, 1, none⟩ = some (.string T) := by rw [hch.cell (p := ⟨wr.heap.size, 1, none⟩) LX.out]; exact D1.out
              go_simp
              exact hK _ _ (rf_step HI.out hus hbs hks 2 _ _ (by show 2 < 13; decide) rfl rfl hbp rfl (Below.refl _ _) (by simp only [puts, setAll, List.set_cons_zero, List.set_cons_succ, List.setIfInBounds_toArray]))
            refine Steps.cons rfl (fun bb aa w' hbs hb0 hbp hI K hK => ?_) ?_
            · obtain ⟨us, hus, rfl, hI⟩ := hI
              obtain ⟨u0, u1, u2, u3, u4, u5, u6, u7, u8, u9, u10, u11, u12, rfl⟩ := len13 hus
              have e2 : u2 = .string T := hI.fact 2 _ rfl (gen_after 2 (by kernel_rfl) hbp)
              subst e2
              have hch := hI.below
              have HI := Veil.mk hI
              clear hI
              simp only [puts, setAll, List.setIfInBounds_toArray, List.set_cons_zero, List.set_cons_succ]
              have hs6 : ¬ 9223372036854775807 < T.size + 1 := by omega
              go_simp
              exact hK _ _ (rf_step HI.out hus hbs hks 3 _ _ (by show 3 < 13; decide) rfl rfl hbp rfl (Below.refl _ _) (by simp only [puts, setAll, List.set_cons_zero, List.set_cons_succ, List.setIfInBounds_toArray]))
            refine Steps.cons rfl (fun bb aa w' hbs hb0 hbp hI K hK => ?_) ?_
            · obtain ⟨us, hus, rfl, hI⟩ := hI
              obtain ⟨u0, u1, u2, u3, u4, u5, u6, u7, u8, u9, u10, u11, u12, rfl⟩ := len13 hus
              have hch := hI.below
              have HI := Veil.mk hI
              clear hI
              simp only [puts, setAll, List.setIfInBounds_toArray, List.set_cons_zero, List.set_cons_succ]
              go_simp
              exact hK _ _ (rf_step HI.out hus hbs hks 4 _ (.slice (some ⟨w'.heap.size, 0, none⟩) 4 4) (by show 4 < 13; decide) rfl rfl hbp ⟨w'.heap.size, rfl, Box.new w' _ _⟩ ((Below.refl _ _).alloc (Nat.le_refl _) _) (by simp only [puts, setAll, List.set_cons_zero, List.set_cons_succ, List.setIfInBounds_toArray]))
            refine Steps.cons rfl (fun bb aa w' hbs hb0 hbp hI K hK => ?_) ?_
            · obtain ⟨us, hus, rfl, hI⟩ := hI
              obtain ⟨u0, u1, u2, u3, u4, u5, u6, u7, u8, u9, u10, u11, u12, rfl⟩ := len13 hus
              have hch := hI.below
              have HI := Veil.mk hI
              clear hI
              simp only [puts, setAll, List.setIfInBounds_toArray, List.set_cons_zero, List.set_cons_succ]
              go_simp
              exact hK _ _ (rf_step HI.out hus hbs hks 5 _ _ (by show 5 < 13; decide) rfl rfl hbp rfl (Below.refl _ _) (by simp only [puts, setAll, List.set_cons_zero, List.set_cons_succ, List.setIfInBounds_toArray]))
            refine Steps.cons rfl (fun bb aa w' hbs hb0 hbp hI K hK => ?_) ?_
            · obtain ⟨us, hus, rfl, hI⟩ := hI
              obtain ⟨u0, u1, u2, u3, u4, u5, u6, u7, u8, u9, u10, u11, u12, rfl⟩ := len13 hus
              have hch := hI.below
              have HI := Veil.mk hI
              clear hI
              simp only [puts, setAll, List.setIfInBounds_toArray, List.set_cons_zero, List.set_cons_succ]
              go_simp
              exact hK _ _ (rf_step HI.out hus hbs hks 6 _ _ (by show 6 < 13; decide) rfl rfl hbp rfl (Below.refl _ _) (by simp only [puts, setAll, List.set_cons_zero, List.set_cons_succ, List.setIfInBounds_toArray]))
            refine Steps.cons rfl (fun bb aa w' hbs hb0 hbp hI K hK => ?_) ?_
            · obtain ⟨us, hus, rfl, hI⟩ := hI
              obtain ⟨u0, u1, u2, u3, u4, u5, u6, u7, u8, u9, u10, u11, u12, rfl⟩ := len13 hus
              have e5 : u5 = .slice a n cap := hI.fact 5 _ rfl (gen_after 5 (by kernel_rfl) hbp)
              subst e5
              have e6 : u6 = .int .i64 (k : Int) := hI.fact 6 _ rfl (gen_after 6 (by kernel_rfl) hbp)
              subst e6
              have hch := hI.below
              have HI := Veil.mk hI
              clear hI
              simp only [puts, setAll, List.setIfInBounds_toArray, List.set_cons_zero, List.set_cons_succ]
              go_simp
              go_at_call 8
              refine (HPQ.out _ (HN4.out.on hch)).mono ?_
              rintro e9 w9 ⟨rfl, rfl⟩
              go_simp
              exact hK _ _ (rf_step HI.out hus hbs hks 7 _ _ (by show 7 < 13; decide) rfl rfl hbp rfl (Below.refl _ _) (by simp only [puts, setAll, List.set_cons_zero, List.set_cons_succ, List.setIfInBounds_toArray]))
            refine Steps.cons rfl (fun bb aa w' hbs hb0 hbp hI K hK => ?_) ?_
            · obtain ⟨us, hus, rfl, hI⟩ := hI
              obtain ⟨u0, u1, u2, u3, u4, u5, u6, u7, u8, u9, u10, u11, u12, rfl⟩ := len13 hus
              have q4 := hI.fact 4 _ rfl (gen_after 4 (by kernel_rfl) hbp)
              have e7 : u7 = .int .i64 (q : Int) := hI.fact 7 _ rfl (gen_after 7 (by kernel_rfl) hbp)
              subst e7
              have hch := hI.below
              have HI := Veil.mk hI
              clear hI
              simp only [puts, setAll, List.setIfInBounds_toArray, List.set_cons_zero, List.set_cons_succ]
              obtain ⟨g4, e4, b4⟩ := q4
              have e4 : u4 = .slice (some ⟨g4, 0, none⟩) 4 4 := e4
              subst e4
              go_simp
              exact hK _ _ (rf_step HI.out hus hbs hks 8 _ (.pointer (some ⟨g4, q, none⟩)) (by show 8 < 13; decide) rfl rfl hbp ⟨g4, rfl, b4⟩ (Below.refl _ _) (by simp only [puts, setAll, List.set_cons_zero, List.set_cons_succ, List.setIfInBounds_toArray]))
            refine Steps.cons rfl (fun bb aa w' hbs hb0 hbp hI K hK => ?_) ?_
            · obtain ⟨us, hus, rfl, hI⟩ := hI
              obtain ⟨u0, u1, u2, u3, u4, u5, u6, u7, u8, u9, u10, u11, u12, rfl⟩ := len13 hus
              have q8 := hI.fact 8 _ rfl (gen_after 8 (by kernel_rfl) hbp)
              have hch := hI.below
              have HI := Veil.mk hI
              clear hI
              simp only [puts, setAll, List.setIfInBounds_toArray, List.set_cons_zero, List.set_cons_succ]
              obtain ⟨g8, e8, b8⟩ := q8
              have e8 : u8 = .pointer (some ⟨g8, q, none⟩) := e8
              subst e8
              have k8 : w'.cell? ⟨g8, q, none⟩ = some (.string P) := by rw [b8.at_ q]; exact HSEP.out
              go_simp
              exact hK _ _ (rf_step HI.out hus hbs hks 9 _ _ (by show 9 < 13; decide) rfl rfl hbp rfl (Below.refl _ _) (by simp only [puts, setAll, List.set_cons_zero, List.set_cons_succ, List.setIfInBounds_toArray]))
            refine Steps.cons rfl (fun bb aa w' hbs hb0 hbp hI K hK => ?_) ?_
            · obtain ⟨us, hus, rfl, hI⟩ := hI
              obtain ⟨u0, u1, u2, u3, u4, u5, u6, u7, u8, u9, u10, u11, u12, rfl⟩ := len13 hus
              have e3 : u3 = .string (T ++ ⟨#[32]⟩) := hI.fact 3 _ rfl (gen_after 3 (by kernel_rfl) hbp)
              subst e3
              have e9 : u9 = .string P := hI.fact 9 _ rfl (gen_after 9 (by kernel_rfl) hbp)
              subst e9
              have hch := hI.below
              have HI := Veil.mk hI
              clear hI
              simp only [puts, setAll, List.setIfInBounds_toArray, List.set_cons_zero, List.set_cons_succ]
              have hs6 : ¬ 9223372036854775807 < T.size + 1 + P.size := by omega
              go_simp
              exact hK _ _ (rf_step HI.out hus hbs hks 10 _ _ (by show 10 < 13; decide) rfl rfl hbp rfl (Below.refl _ _) (by simp only [puts, setAll, List.set_cons_zero, List.set_cons_succ, List.setIfInBounds_toArray]))
            refine Steps.cons rfl (fun bb aa w' hbs hb0 hbp hI K hK => ?_) ?_
            · obtain ⟨us, hus, rfl, hI⟩ := hI
              obtain ⟨u0, u1, u2, u3, u4, u5, u6, u7, u8, u9, u10, u11, u12, rfl⟩ := len13 hus
              have e0 : u0 = .string Sb := hI.fact 0 _ rfl (gen_after 0 (by kernel_rfl) hbp)
              subst e0
              have e10 : u10 = .string ((T ++ ⟨#[32]⟩) ++ P) := hI.fact 10 _ rfl (gen_after 10 (by kernel_rfl) hbp)
              subst e10
              have hch := hI.below
              have HI := Veil.mk hI
              clear hI
              simp only [puts, setAll, List.setIfInBounds_toArray, List.set_cons_zero, List.set_cons_succ]
              have hs6 : ¬ 9223372036854775807 < Sb.size + (T.size + 1 + P.size) := by omega
              go_simp
              exact hK _ _ (rf_step HI.out hus hbs hks 11 _ _ (by show 11 < 13; decide) rfl rfl hbp rfl (Below.refl _ _) (by simp only [puts, setAll, List.set_cons_zero, List.set_cons_succ, List.setIfInBounds_toArray]))
            refine Steps.cons rfl (fun bb aa w' hbs hb0 hbp hI K hK => ?_) ?_
            · obtain ⟨us, hus, rfl, hI⟩ := hI
              obtain ⟨u0, u1, u2, u3, u4, u5, u6, u7, u8, u9, u10, u11, u12, rfl⟩ := len13 hus
              have e11 : u11 = .string (Sb ++ ((T ++ ⟨#[32]⟩) ++ P)) := hI.fact 11 _ rfl (gen_after 11 (by kernel_rfl) hbp)
              subst e11
              have hch := hI.below
              have HI := Veil.mk hI
              clear hI
              simp only [puts, setAll, List.setIfInBounds_toArray, List.set_cons_zero, List.set_cons_succ]
              go_simp
              exact hK _ _ (rf_step HI.out hus hbs hks 12 _ _ (by show 12 < 13; decide) rfl rfl hbp rfl (Below.refl _ _) (by simp only [puts, setAll, List.set_cons_zero, List.set_cons_succ, List.setIfInBounds_toArray]))
            exact Steps.nil
          · intro us w' hus hd
            obtain ⟨u0, u1, u2, u3, u4, u5, u6, u7, u8, u9, u10, u11, u12, rfl⟩ := len13 hus
            obtain ⟨hbW, hd⟩ := hd
            have e0 : u0 = .string Sb := hd 0 _ rfl
            subst e0
            have e1 : u1 = .pointer (some ⟨wr.heap.size, 1, none⟩) := hd 1 _ rfl
            subst e1
            have e2 : u2 = .string T := hd 2 _ rfl
            subst e2
            have e3 : u3 = .string (T ++ ⟨#[32]⟩) := hd 3 _ rfl
            subst e3
            have q4 := hd 4 _ rfl
            have e5 : u5 = .slice a n cap := hd 5 _ rfl
            subst e5
            have e6 : u6 = .int .i64 (k : Int) := hd 6 _ rfl
            subst e6
            have e7 : u7 = .int .i64 (q : Int) := hd 7 _ rfl
            subst e7
            have q8 := hd 8 _ rfl
            have e9 : u9 = .string P := hd 9 _ rfl
            subst e9
            have e10 : u10 = .string ((T ++ ⟨#[32]⟩) ++ P) := hd 10 _ rfl
            subst e10
            have e11 : u11 = .string (Sb ++ ((T ++ ⟨#[32]⟩) ++ P)) := hd 11 _ rfl
            subst e11
            have e12 : u12 = .string (Sb ++ ((T ++ ⟨#[32]⟩) ++ P)) := hd 12 _ rfl
            subst e12
            clear hd
            simp only [puts, setAll, List.setIfInBounds_toArray, List.set_cons_zero, List.set_cons_succ]
            obtain ⟨g4, e4, b4⟩ := q4
            have e4 : u4 = .slice (some ⟨g4, 0, none⟩) 4 4 := e4
            subst e4
            obtain ⟨g8, e8, b8⟩ := q8
            have e8 : u8 = .pointer (some ⟨g8, q, none⟩) := e8
            subst e8
            have HBW := Veil.mk hbW
            clear hbW
            go_wp2
            exact HREL.out _ HBW.out
      · have hkn' : ¬ (k : Int) < (ts.length : Int) := by omega
        obtain rfl : k = ts.length := by omega
        have htk : ts.take ts.length = ts := List.take_length
        rw [htk] at HNO ⊢
        obtain ⟨hlen, us, hus, hvw⟩ := HBL.out HNO.out
        obtain ⟨X, hX⟩ : ∃ X, spB2 (pkN l) (ts.map (·.1)) = X := ⟨_, rfl⟩
        have hXl : X.data.toList = spL (pkN l) 0 (ts.map (·.1)) := by rw [← hX]; rfl
        have hXs : X.size ≤ 10000 := by rw [← hX, spB2_size]; exact hlen
        have hul : us.length = ts.length := by simpa using congrArg List.length hvw
        rw [hX]
        have HSC2 : Veil (∀ w, Gl w → Calls Tryd.prog 7 #[.string X] w fun e w' => ∃ g cap, e = .returned (.tuple #[.slice (some ⟨g, 0, none⟩) ts.length cap, .agg #[.int .i64 0, .int .i64 0]]) ∧ Below w.heap.size w w' ∧ w'.ownsRow w.heap.size 31 4 (.slice (some ⟨g, 0, none⟩) us.length cap) us.length (tkFlat us)) := ⟨fun w hg => (scan_any X (by omega) w hg).mono (by
          rintro e w' ⟨hb, h⟩
          rw [hXl, hus] at h
          rcases h with ⟨k, a, h1, _⟩ | ⟨ts', g, cap, h1, h2, h3⟩
          · cases h1
          · injection h1 with h1
            subst h1
            rw [← hul]
            exact ⟨g, cap, h2, hb, h3⟩)⟩
        have HVW : Veil (∀ (k : Nat) (t : Tk × Nat), ts[k]? = some t → ∃ u : Tk × Nat, us[k]? = some u ∧ u.1.kind = t.1.kind ∧ u.1.text = t.1.text ∧ u.1.n = t.1.n) := ⟨fun k t h => by
          have h1 : (us.map (fun v => view v.1))[k]? = (ts.map (fun v => view v.1))[k]? := by rw [hvw]
          rw [List.getElem?_map, List.getElem?_map, h] at h1
          cases hu : us[k]? with
          | none => rw [hu] at h1; cases h1
          | some u =>
            rw [hu] at h1
            simp only [Option.map_some, Option.some.injEq, view, Prod.mk.injEq] at h1
            exact ⟨u, rfl, h1.1, h1.2.1, h1.2.2⟩⟩
        have HGr : Veil (Gl wr) := ⟨HG3.out.on HBE.out⟩
        clear hX hXl hXs hus hvw hlen htk hul
        go_upto_region 17 with (first | (go_at_call 7; ((with_reducible refine (HSC2.out _ HGr.out).mono ?_); rintro e9 w5 ⟨g2, ca2, rfl, hb5, ho5⟩)))
        have hb6 : Below wr.heap.size wr (w5.alloc (.cells #[.int .i64 0, .int .i64 0] 27)) := hb5.alloc hb5.size _
        have ho6 := ho5.alloc (.cells #[.int .i64 0, .int .i64 0] 27)
        have bf2 : Box (w5.alloc (.cells #[.int .i64 0, .int .i64 0] 27)) w5.heap.size 27 #[.int .i64 0, .int .i64 0] := Box.new _ _ _
        generalize w5.alloc (.cells #[.int .i64 0, .int .i64 0] 27) = W6 at hb6 ho6 bf2 ⊢
        have c2 : W6.cell? ⟨w5.heap.size, 0, none⟩ = some (.int .i64 0) := bf2.at_ 0
        have HO6 := Veil.mk ho6
        have HO7 : Veil (W6.ownsRow w1.heap.size 31 4 (.slice (some ⟨g, 0, none⟩) ts.length ca1) ts.length (tkFlat ts)) := ⟨own_touch HOr.out (Touch.of_below (S := fun _ => False) hb6) (fun _ _ h => h)⟩
        have HB6 : Veil (Below W3.heap.size W3 W6) := ⟨HBE.out.trans (hb6.mono HBE.out.size)⟩
        have hll : ((ts.length : Int) != (ts.length : Int)) = false := by simp
        clear hb5 ho5 hb6 ho6 bf2
        go_upto_region 20 with (fail)
        clear hll c2
        go_loopw [69] (fun i wr => ∃ k : Nat, k ≤ ts.length ∧ i = .int .i64 (k : Int) ∧ Veil (Below W6.heap.size W6 wr)) (fun i _ => ts.length - (intOf i).toNat)
        case atStart => exact ⟨0, Nat.zero_le _, rfl, ⟨Below.refl _ _⟩⟩
        case round =>
          obtain ⟨k, hk, rfl, HBR⟩ := hrel
          have hk0 : (0 : Int) ≤ (k : Int) := by omega
          by_cases hkn : k < ts.length
          · have hkn' : (k : Int) < (ts.length : Int) := by omega
            obtain ⟨tk, htk⟩ : ∃ tk, ts[k]? = some tk := ⟨_, List.getElem?_eq_getElem hkn⟩
            obtain ⟨uk, huk, he1, he2, he3⟩ := HVW.out k tk htk
            obtain ⟨hc0, hc1, -, hc3⟩ := tk_cells (own_touch HO7.out (Touch.of_below (S := fun _ => False) HBR.out) (fun _ _ h => h)) k tk htk
            obtain ⟨hu0, hu1, -, hu3⟩ := tk_cells (own_touch HO6.out (Touch.of_below (S := fun _ => False) HBR.out) (fun _ _ h => h)) k uk huk
            rw [he1] at hu0
            rw [he2] at hu1
            rw [he3] at hu3
            clear htk huk he1 he2 he3
            obtain ⟨⟨kd, tx, nn, ln⟩, ap⟩ := tk
            simp only at hc0 hc1 hc3 hu0 hu1 hu3
            obtain ⟨T, hT⟩ : ∃ T : ByteArray, (⟨tx.toArray⟩ : ByteArray) = T := ⟨_, rfl⟩
            rw [hT] at hc1 hu1
            clear hT
            have q1 : ((kd : Int) != (kd : Int)) = false := by simp
            have q2 : (T.toList != T.toList) = false := by simp
            have q3 : (nn != nn) = false := by simp
            go_upto_region 22 with (fail)
            go_quiet (fail)
            go_wp2
            go_round
            case rel => exact ⟨k + 1, by omega, by go_num, ⟨below_drewN HBR.out _⟩⟩
            case measure => simp [intOf]; omega
          · have hkn' : ¬ (k : Int) < (ts.length : Int) := by omega
            go_wp2
            go_ret
            exact ⟨rfl, HB1.out.trans ((HB3.out.trans ((HB6.out.trans (HBR.out.mono HB6.out.size)).mono HB3.out.size)).mono HB1.out.size)⟩
end Go.Proofs.YtfejompnjaifmaaDoor
