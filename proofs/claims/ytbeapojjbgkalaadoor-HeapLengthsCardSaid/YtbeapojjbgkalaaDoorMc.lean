/- Package heap: copy and clear of values, how an array lies, resize. -/
import Derived.Test.YtbeapojjbgkalaaDoorHc
import Derived.Laws.CopyRow
import Derived.Lib.SlBuf
namespace Go.Proofs.YtbeapojjbgkalaaDoor
open Go Go.RowKit

/-- A row's cells hold these values. -/
def TpX (l : List Value) (cap : Nat) (xs : Nat → Vt) : Prop := l.length = cap * 3 ∧ ∀ i, i < cap → l[i * 3]? = some (.int .i64 (xs i).1) ∧ l[i * 3 + 1]? = some (.int .i64 (xs i).2.1) ∧ l[i * 3 + 2]? = some (.string (xs i).2.2)
theorem spl_get (l m : List Value) (a j : Nat) (ha : a + m.length ≤ l.length) : (l.take a ++ m ++ l.drop (a + m.length))[j]? = if j < a then l[j]? else if j < a + m.length then m[j - a]? else l[j]? := by
  have e : min a l.length = a := by omega
  split
  · rename_i h
    rw [List.append_assoc, List.getElem?_append_left (by rw [List.length_take]; omega), List.getElem?_take, if_pos h]
  · rename_i h
    rw [List.append_assoc, List.getElem?_append_right (by rw [List.length_take]; omega), List.length_take, e]
    split
    · rename_i h2
      rw [List.getElem?_append_left (by omega)]
    · rename_i h2
      rw [List.getElem?_append_right (by omega), List.getElem?_drop]
      congr 1
      omega
theorem TpX.splice {l m : List Value} {cap k o : Nat} {xs ys : Nat → Vt} (h : TpX l cap xs) (h2 : TpX m k ys) (ho : o + k ≤ cap) : TpX (l.take (o * 3) ++ m ++ l.drop (o * 3 + m.length)) cap (fun i => if o ≤ i ∧ i < o + k then ys (i - o) else xs i) := by
  have hm := h2.1
  have hl := h.1
  refine ⟨?_, fun i hi => ?_⟩
  · rw [List.length_append, List.length_append, List.length_take, List.length_drop]
    omega
  · have key : ∀ d, d < 3 → (l.take (o * 3) ++ m ++ l.drop (o * 3 + m.length))[i * 3 + d]? = if o ≤ i ∧ i < o + k then m[(i - o) * 3 + d]? else l[i * 3 + d]? := fun d hd => by
      rw [spl_get _ _ _ _ (by omega)]
      by_cases c : o ≤ i ∧ i < o + k
      · rw [if_neg (by omega), if_pos (by omega), if_pos c]
        congr 1
        omega
      · rw [if_neg c]
        split
        · rfl
        · rw [if_neg (by omega)]
    have k0 := key 0 (by omega)
    rw [key 1 (by omega), key 2 (by omega)]
    simp only [Nat.add_zero] at k0
    rw [k0]
    by_cases c : o ≤ i ∧ i < o + k
    · simp only [if_pos c]
      exact h2.2 (i - o) (by omega)
    · simp only [if_neg c]
      exact h.2 i hi
abbrev zV : Vt := (0, 0, ⟨#[]⟩)
abbrev zC : Array Value := #[.int .i64 0, .int .i64 0, .string ⟨#[]⟩]
theorem TpX.of_mod {l : List Value} (cap : Nat) (hl : l.length = cap * 3) (h : ∀ j, j < cap * 3 → l[j]? = some (zC[j % 3]!)) : TpX l cap (fun _ => zV) := by
  refine ⟨hl, fun i hi => ?_⟩
  refine ⟨(h (i * 3) (by omega)).trans ?_, (h (i * 3 + 1) (by omega)).trans ?_, (h (i * 3 + 2) (by omega)).trans ?_⟩
  · rw [show i * 3 % 3 = 0 by omega]; rfl
  · rw [show (i * 3 + 1) % 3 = 1 by omega]; rfl
  · rw [show (i * 3 + 2) % 3 = 2 by omega]; rfl
theorem zero_tp (n : Nat) : TpX (Builtin.zeroCells zC n).toList n (fun _ => zV) := by
  refine TpX.of_mod n (by simp [Builtin.zeroCells]) fun j hj => ?_
  simp [Builtin.zeroCells, hj]
theorem made_tp (n : Nat) : TpX (madeCells zC (n * 3)).toList n (fun _ => zV) := by
  refine TpX.of_mod n (by simp [madeCells]) fun j hj => ?_
  simp [madeCells, hj]
theorem TpX.one {l : List Value} {cap : Nat} {xs : Nat → Vt} (h : TpX l cap xs) : ∀ u ∈ l, u.oneCell' = true := fun u hu => by
  obtain ⟨j, hj⟩ := List.mem_iff_getElem?.1 hu
  have hlt := (List.getElem?_eq_some_iff.1 hj).1
  rw [h.1] at hlt
  obtain ⟨h0, h1, h2⟩ := h.2 (j / 3) (by omega)
  have hc : j = j / 3 * 3 ∨ j = j / 3 * 3 + 1 ∨ j = j / 3 * 3 + 2 := by omega
  rcases hc with e | e | e
  · rw [e, h0] at hj; cases hj; rfl
  · rw [e, h1] at hj; cases hj; rfl
  · rw [e, h2] at hj; cases hj; rfl
theorem Tryd.infoW : (Tryd.prog.info? 45).map (fun i => (i.zero, i.size, i.bytes)) = some (some (.agg zC), 3, 32) := by kernel_rfl
/-- copy of n values into a row's start. -/
theorem run_copy3 (w : World) (ty : TypeId) (g dCap n sCap : Nat) (a : Addr) (cur : Array Value) (cs : List Value) (hg : Box w g 45 cur) (hn : cs.length = n * 3)
    (hsrc : ∀ j v, cs[j]? = some v → w.cell? (a.add j) = some v) (hfit : cs.length ≤ cur.size) (h1 : ∀ v ∈ cs, v.oneCell' = true) :
    (Builtin.copy_ #[31, 31] ty #[.slice (some ⟨g, 0, none⟩) n dCap, .slice (some a) n sCap]).run Tryd.prog w = .ok (goInt n) (w.setRow g (cur.toList.take (0 * 3) ++ cs ++ cur.toList.drop (0 * 3 + cs.length)).toArray) := by
  obtain ⟨i, hi, hz0, hz1, hz2⟩ := info_parts Tryd.infoW
  have hl := run_loadCells_list (P := Tryd.prog) w a cs hsrc
  have hst := run_storeCells_at Tryd.prog g 0 45 cs 0 cur w hg (by simpa using hfit) h1
  have hmn : Nat.min n n = n := Nat.min_self n
  simp only [Nat.zero_add] at hst
  simp [Builtin.copy_, run_underlying Tryd.underlying31, Builtin.lenOf, Builtin.firstCells, sizeOf, typeInfo, hi, hz1, hmn, ← hn, hl, hst]
theorem run_copy3_nil (w : World) (ty : TypeId) (g dCap : Nat) : (Builtin.copy_ #[31, 31] ty #[.slice (some ⟨g, 0, none⟩) 0 dCap, .slice none 0 0]).run Tryd.prog w = .ok (goInt 0) w :=
  run_copy_nil Tryd.prog w _ _ ty 45 ⟨g, 0, none⟩ 0 dCap Tryd.underlying31 (by kernel_rfl)
/-- clear of a part of a row. -/
theorem run_clear3 (w : World) (ty : TypeId) (g o n c : Nat) (cur : Array Value) (hg : Box w g 45 cur) (hn : 0 < n) (hfit : o * 3 + n * 3 ≤ cur.size) :
    (Builtin.clear_ #[31] ty #[.slice (some ⟨g, o * 3, none⟩) n c]).run Tryd.prog w = .ok (.tuple #[]) (w.setRow g (cur.toList.take (o * 3) ++ (Builtin.zeroCells zC n).toList ++ cur.toList.drop (o * 3 + (Builtin.zeroCells zC n).toList.length)).toArray) := by
  obtain ⟨i, hi, hz0, hz1, hz2⟩ := info_parts Tryd.infoW
  have hst := run_storeCells_at Tryd.prog g (o * 3) 45 (Builtin.zeroCells zC n).toList 0 cur w hg (by rw [(zero_tp n).1]; omega) (zero_tp n).one
  simp only [Nat.add_zero] at hst
  have hzv : (zeroValue 45).run Tryd.prog w = .ok (.agg zC) w := by simp [zeroValue, typeInfo, hi, hz0]
  obtain ⟨m, rfl⟩ : ∃ m, n = m + 1 := ⟨n - 1, by omega⟩
  have hcz : (Value.agg zC).cells = zC := rfl
  simp [Builtin.clear_, run_underlying Tryd.underlying31, hzv, hcz, hst]
end Go.Proofs.YtbeapojjbgkalaaDoor
namespace Go.Proofs.YtbeapojjbgkalaaDoor
open Go Go.RowKit

/-- An array's elements: n in a row for cap. -/
structure ELg (w : World) (B g n cap : Nat) (xs : Nat → Vt) : Prop where
  lo : B ≤ g
  le : n ≤ cap
  sm : cap ≤ 15001
  bx : ∃ cur, Box w g 45 cur ∧ TpX cur.toList cap xs
def EL (w : World) (B : Nat) (ev : Value) (n : Nat) (xs : Nat → Vt) : Prop := (ev = .slice none 0 0 ∧ n = 0) ∨ ∃ g cap, ev = .slice (some ⟨g, 0, none⟩) n cap ∧ ELg w B g n cap xs
section
variable {w w' : World} {B g n cap : Nat} {xs : Nat → Vt} {ev : Value}
theorem ELg.lab (h : ELg w B g n cap xs) : Lab w g 45 := by
  obtain ⟨cur, hb, _⟩ := h.bx
  exact hb.lab
theorem ELg.lt (h : ELg w B g n cap xs) : g < w.heap.size := by
  obtain ⟨cur, hb, _⟩ := h.bx
  exact hb.lt
theorem ELg.touch {S : Nat → Prop} (h : ELg w B g n cap xs) (ht : Touch S w w') (hn : ¬ S g) : ELg w' B g n cap xs := by
  obtain ⟨cur, hb, hx⟩ := h.bx
  exact ⟨h.lo, h.le, h.sm, cur, hb.touch ht hn, hx⟩
theorem ELg.on (h : ELg w B g n cap xs) (hb : Below w.heap.size w w') : ELg w' B g n cap xs := h.touch (S := fun _ => False) (Touch.of_below hb) (fun h => h)
theorem ELg.cell (h : ELg w B g n cap xs) (i : Nat) (hi : i < cap) : w.cell? ⟨g, i * 3, none⟩ = some (.int .i64 (xs i).1) ∧ w.cell? ⟨g, i * 3 + 1, none⟩ = some (.int .i64 (xs i).2.1) ∧ w.cell? ⟨g, i * 3 + 2, none⟩ = some (.string (xs i).2.2) := by
  obtain ⟨cur, hb, hx⟩ := h.bx
  obtain ⟨h0, h1, h2⟩ := hx.2 i hi
  exact ⟨(hb.at_ _).trans (by simpa using h0), (hb.at_ _).trans (by simpa using h1), (hb.at_ _).trans (by simpa using h2)⟩
theorem ELg.free (h : ELg w B g n cap xs) (j : Nat) : w.frozen? ⟨g, j, none⟩ = false := by
  obtain ⟨cur, hb, _⟩ := h.bx
  exact hb.free j
theorem ELg.resized (h : ELg w B g n cap xs) (n' : Nat) (hn : n' ≤ cap) : ELg w B g n' cap xs := ⟨h.lo, hn, h.sm, h.bx⟩
theorem tp_set {l : List Value} {cap : Nat} {xs : Nat → Vt} (h : TpX l cap xs) (i : Nat) (hi : i < cap) (v : Vt) : TpX (((l.set (i * 3) (.int .i64 v.1)).set (i * 3 + 1) (.int .i64 v.2.1)).set (i * 3 + 2) (.string v.2.2)) cap (fun j => if j = i then v else xs j) := by
  refine ⟨by rw [List.length_set, List.length_set, List.length_set]; exact h.1, fun j hj => ?_⟩
  have hl := h.1
  obtain ⟨h0, h1, h2⟩ := h.2 j hj
  by_cases e : j = i
  · subst e
    have ex : (fun i => if i = j then v else xs i) j = v := if_pos rfl
    rw [ex]
    refine ⟨?_, ?_, ?_⟩
    · rw [List.getElem?_set_ne (by omega), List.getElem?_set_ne (by omega), List.getElem?_set_self (by omega)]
    · rw [List.getElem?_set_ne (by omega), List.getElem?_set_self (by rw [List.length_set]; omega)]
    · rw [List.getElem?_set_self (by rw [List.length_set, List.length_set]; omega)]
  · simp only [if_neg e]
    refine ⟨?_, ?_, ?_⟩
    · rw [List.getElem?_set_ne (by omega), List.getElem?_set_ne (by omega), List.getElem?_set_ne (by omega)]; exact h0
    · rw [List.getElem?_set_ne (by omega), List.getElem?_set_ne (by omega), List.getElem?_set_ne (by omega)]; exact h1
    · rw [List.getElem?_set_ne (by omega), List.getElem?_set_ne (by omega), List.getElem?_set_ne (by omega)]; exact h2
/-- One value is stored. -/
theorem ELg.set (h : ELg w B g n cap xs) (i : Nat) (hi : i < cap) (v : Vt) :
    ELg (((w.setCell ⟨g, i * 3, none⟩ (.int .i64 v.1)).setCell ⟨g, i * 3 + 1, none⟩ (.int .i64 v.2.1)).setCell ⟨g, i * 3 + 2, none⟩ (.string v.2.2)) B g n cap (fun j => if j = i then v else xs j) ∧
    Touch (fun k => k = g) w (((w.setCell ⟨g, i * 3, none⟩ (.int .i64 v.1)).setCell ⟨g, i * 3 + 1, none⟩ (.int .i64 v.2.1)).setCell ⟨g, i * 3 + 2, none⟩ (.string v.2.2)) := by
  obtain ⟨cur, hb, hx⟩ := h.bx
  refine ⟨⟨h.lo, h.le, h.sm, _, ((hb.put _ _).put _ _).put _ _, ?_⟩, ((Touch.put (S := fun k => k = g) rfl _ _).trans (Touch.put (S := fun k => k = g) rfl _ _)).trans (Touch.put (S := fun k => k = g) rfl _ _)⟩
  rw [Array.toList_setIfInBounds, Array.toList_setIfInBounds, Array.toList_setIfInBounds]
  exact tp_set hx i hi v
theorem setRow_touch (w : World) (g : Nat) (cs : Array Value) : Touch (fun k => k = g) w (w.setRow g cs) := by
  refine ⟨rfl, rfl, rfl, by simp [World.setRow], fun k hk hn => ?_⟩
  have hn : k ≠ g := hn
  show (w.heap.modify g _)[k]? = _
  rw [Array.getElem?_modify, if_neg (fun e => hn e.symm)]
/-- What a call leaves of the elements. -/
def ElP (w : World) (B o : Nat) (proto : Int) (ev : Value) (n' : Nat) (w' : World) : Prop := ∃ ev' xs', Box w' o 38 (objC 1 proto false (.pointer none) ev') ∧ EL w' B ev' n' xs' ∧ Touch (fun k => k = o ∨ ev.ownBlock = some k) w w' ∧ ∀ k, ev'.ownBlock = some k → ev.ownBlock = some k ∨ w.heap.size ≤ k
theorem EL.nil (w : World) (B : Nat) (xs : Nat → Vt) : EL w B (.slice none 0 0) 0 xs := .inl ⟨rfl, rfl⟩
end
set_option maxHeartbeats 2000000 in
set_option maxRecDepth 100000 in
theorem resize_fit {w : World} {B o g n cap : Nat} {proto : Int} {xs : Nat → Vt} (hb : Box w o 38 (objC 1 proto false (.pointer none) (.slice (some ⟨g, 0, none⟩) n cap))) (he : ELg w B g n cap xs) (n' : Nat) (hn : n' ≤ 10000) (hc : n' ≤ cap) :
    Calls Tryd.prog 67 #[.pointer (some ⟨o, 0, none⟩), .int .i64 (n' : Int)] w fun e w' => e = .returned (.tuple #[]) ∧ ElP w B o proto (.slice (some ⟨g, 0, none⟩) n cap) n' w' := by
  have hne : ¬ o = g := hb.lab.ne he.lab (by decide)
  have o4 : w.cell? ⟨o, 4, none⟩ = some (.slice (some ⟨g, 0, none⟩) n cap) := hb.at_ 4
  have o4f := hb.free 4
  have hc' : ¬ (cap : Int) < (n' : Int) := by omega
  have hc2 : (n' : Int) ≤ (cap : Int) := by omega
  have hn0 : (0 : Int) ≤ (n' : Int) := by omega
  have hle := he.le
  have hsm := he.sm
  by_cases hlt : n' < n
  · have hlt' : (n' : Int) < (n : Int) := by omega
    obtain ⟨cur, hbx, hx⟩ := he.bx
    have hcl := fun ty => run_clear3 w ty g n' (n - n') (cap - n') cur hbx (by omega) (by have := hx.1; simp at this; omega)
    have hspl := hx.splice (zero_tp (n - n')) (o := n') (by omega)
    have bx2 : Box (w.setRow g (cur.toList.take (n' * 3) ++ (Builtin.zeroCells zC (n - n')).toList ++ cur.toList.drop (n' * 3 + (Builtin.zeroCells zC (n - n')).toList.length)).toArray) g 45 _ := setRow_heap w g cur _ _ _ hbx
    have tr := setRow_touch w g (cur.toList.take (n' * 3) ++ (Builtin.zeroCells zC (n - n')).toList ++ cur.toList.drop (n' * 3 + (Builtin.zeroCells zC (n - n')).toList.length)).toArray
    obtain ⟨W1, hW1⟩ : ∃ W1, w.setRow g (cur.toList.take (n' * 3) ++ (Builtin.zeroCells zC (n - n')).toList ++ cur.toList.drop (n' * 3 + (Builtin.zeroCells zC (n - n')).toList.length)).toArray = W1 := ⟨_, rfl⟩
    rw [hW1] at hcl bx2 tr
    have hel1 : ELg W1 B g n cap _ := ⟨he.lo, he.le, he.sm, _, bx2, hspl⟩
    have hbo1 := hb.touch tr hne
    have o41 : W1.cell? ⟨o, 4, none⟩ = some (.slice (some ⟨g, 0, none⟩) n cap) := hbo1.at_ 4
    have o41f := hbo1.free 4
    have tp := Touch.put (S := fun k => k = o) (w := W1) rfl 4 (.slice (some ⟨g, 0, none⟩) n' cap)
    have HR := Veil.mk (And.intro (hbo1.put 4 (.slice (some ⟨g, 0, none⟩) n' cap)) (And.intro ((hel1.touch tp (fun e => hne e.symm)).resized n' hc) (And.intro ((tr.mono (S' := fun k => k = o ∨ (Value.slice (some ⟨g, 0, none⟩) n cap).ownBlock = some k) (fun k hk => .inr (by rw [hk]; rfl))).trans (tp.mono (fun k hk => .inl hk))) hne)))
    have hs1 : ((n : Int) - (n' : Int)) = ((n - n' : Nat) : Int) := by omega
    clear hW1 bx2 tr hspl hbx hx hel1 hbo1 tp hb he
    go_enter Tryd.func67, Tryd.ntmps67
    go_upto_region 8 with (fail)
    obtain ⟨hbo, hel, htw, hfr⟩ := HR.out
    have HTW := Veil.mk (And.intro htw hfr)
    have HST0 := Veil.mk (And.intro hbo hel)
    have HB0 := Veil.mk (Touch.refl (fun k => k = g) (W1.setCell ⟨o, 4, none⟩ (.slice (some ⟨g, 0, none⟩) n' cap)))
    clear hbo hel htw hfr HR
    obtain ⟨WB, hWB⟩ : ∃ WB, WB = (W1.setCell ⟨o, 4, none⟩ (.slice (some ⟨g, 0, none⟩) n' cap)) := ⟨_, rfl⟩
    rw [← hWB] at HTW HST0 HB0
    rw [← hWB]
    clear hWB o4 o4f o41 o41f hcl
    go_wp2
    go_loopw [6] (fun i wr => ∃ (j : Nat) (xs' : Nat → Vt), i = .int .i64 (j : Int) ∧ Box wr o 38 (objC 1 proto false (.pointer none) (.slice (some ⟨g, 0, none⟩) n' cap)) ∧ ELg wr B g n' cap xs' ∧ Touch (fun k => k = g) WB wr) (fun i _ => n' - (intOf i).toNat)
    case atStart => exact ⟨n, _, rfl, HST0.out.1, HST0.out.2, HB0.out⟩
    case round =>
      clear HST0 HB0
      obtain ⟨j, xs', rfl, hbo, hel, hti⟩ := hrel
      have hj0 : (0 : Int) ≤ (j : Int) := by omega
      by_cases hlt : j < n'
      · have hlt' : (j : Int) < (n' : Int) := by omega
        have hjc : j < cap := by have := hel.le; omega
        have o4 : wr.cell? ⟨o, 4, none⟩ = some (.slice (some ⟨g, 0, none⟩) n' cap) := hbo.at_ 4
        obtain ⟨c0, c1, c2⟩ := hel.cell j hjc
        have f0 := hel.free (j * 3)
        have f1 := hel.free (j * 3 + 1)
        have f2 := hel.free (j * 3 + 2)
        obtain ⟨s1, s2⟩ := hel.set j hjc (10, 0, ⟨#[]⟩)
        have hne : ¬ o = g := hbo.lab.ne hel.lab (by decide)
        have HN := Veil.mk (And.intro (hbo.touch s2 hne) (And.intro s1 (hti.trans s2)))
        have hnb : (n' : Int) ≤ 10000 := by omega
        clear hbo hel hti s1 s2
        go_wp2
        go_roundw
        case rel => exact ⟨j + 1, _, by go_num, HN.out.1, HN.out.2.1, HN.out.2.2⟩
        case measure => simp [intOf]; omega
      · have hlt' : ¬ (j : Int) < (n' : Int) := by omega
        have HF := Veil.mk (And.intro hbo (And.intro hel hti))
        clear hbo hel hti
        go_wp2
        obtain ⟨hbo, hel, hti⟩ := HF.out
        exact bodyPost_end (results_none rfl _ _ _) rfl ⟨rfl, _, xs', hbo, .inr ⟨g, cap, rfl, hel⟩, HTW.out.1.trans (hti.mono (fun k hk => .inr (by rw [hk]; rfl))), fun k hk => .inl hk⟩
  · have hlt' : ¬ (n' : Int) < (n : Int) := by omega
    have tp := Touch.put (S := fun k => k = o) (w := w) rfl 4 (.slice (some ⟨g, 0, none⟩) n' cap)
    have HR := Veil.mk (And.intro (hb.put 4 (.slice (some ⟨g, 0, none⟩) n' cap)) (And.intro ((he.touch tp (fun e => hne e.symm)).resized n' hc) (And.intro (tp.mono (S' := fun k => k = o ∨ (Value.slice (some ⟨g, 0, none⟩) n cap).ownBlock = some k) (fun k hk => .inl hk)) hne)))
    clear hb he tp
    go_enter Tryd.func67, Tryd.ntmps67
    go_upto_region 8 with (fail)
    obtain ⟨hbo, hel, htw, hfr⟩ := HR.out
    have HTW := Veil.mk (And.intro htw hfr)
    have HST0 := Veil.mk (And.intro hbo hel)
    have HB0 := Veil.mk (Touch.refl (fun k => k = g) (w.setCell ⟨o, 4, none⟩ (.slice (some ⟨g, 0, none⟩) n' cap)))
    clear hbo hel htw hfr HR
    obtain ⟨WB, hWB⟩ : ∃ WB, WB = (w.setCell ⟨o, 4, none⟩ (.slice (some ⟨g, 0, none⟩) n' cap)) := ⟨_, rfl⟩
    rw [← hWB] at HTW HST0 HB0
    rw [← hWB]
    clear hWB o4 o4f
    go_wp2
    go_loopw [6] (fun i wr => ∃ (j : Nat) (xs' : Nat → Vt), i = .int .i64 (j : Int) ∧ Box wr o 38 (objC 1 proto false (.pointer none) (.slice (some ⟨g, 0, none⟩) n' cap)) ∧ ELg wr B g n' cap xs' ∧ Touch (fun k => k = g) WB wr) (fun i _ => n' - (intOf i).toNat)
    case atStart => exact ⟨n, _, rfl, HST0.out.1, HST0.out.2, HB0.out⟩
    case round =>
      clear HST0 HB0
      obtain ⟨j, xs', rfl, hbo, hel, hti⟩ := hrel
      have hj0 : (0 : Int) ≤ (j : Int) := by omega
      by_cases hlt : j < n'
      · have hlt' : (j : Int) < (n' : Int) := by omega
        have hjc : j < cap := by have := hel.le; omega
        have o4 : wr.cell? ⟨o, 4, none⟩ = some (.slice (some ⟨g, 0, none⟩) n' cap) := hbo.at_ 4
        obtain ⟨c0, c1, c2⟩ := hel.cell j hjc
        have f0 := hel.free (j * 3)
        have f1 := hel.free (j * 3 + 1)
        have f2 := hel.free (j * 3 + 2)
        obtain ⟨s1, s2⟩ := hel.set j hjc (10, 0, ⟨#[]⟩)
        have hne : ¬ o = g := hbo.lab.ne hel.lab (by decide)
        have HN := Veil.mk (And.intro (hbo.touch s2 hne) (And.intro s1 (hti.trans s2)))
        have hnb : (n' : Int) ≤ 10000 := by omega
        clear hbo hel hti s1 s2
        go_wp2
        go_roundw
        case rel => exact ⟨j + 1, _, by go_num, HN.out.1, HN.out.2.1, HN.out.2.2⟩
        case measure => simp [intOf]; omega
      · have hlt' : ¬ (j : Int) < (n' : Int) := by omega
        have HF := Veil.mk (And.intro hbo (And.intro hel hti))
        clear hbo hel hti
        go_wp2
        obtain ⟨hbo, hel, hti⟩ := HF.out
        exact bodyPost_end (results_none rfl _ _ _) rfl ⟨rfl, _, xs', hbo, .inr ⟨g, cap, rfl, hel⟩, HTW.out.1.trans (hti.mono (fun k hk => .inr (by rw [hk]; rfl))), fun k hk => .inl hk⟩
end Go.Proofs.YtbeapojjbgkalaaDoor
namespace Go.Proofs.YtbeapojjbgkalaaDoor
open Go Go.RowKit

theorem touch_fresh {S F : Nat → Prop} {w a b c : World} (h1 : Touch S w a) (h2 : Touch F a b) (h3 : Touch S b c) (hf : ∀ k, F k → w.heap.size ≤ k) : Touch S w c :=
  (Touch.mk (h2.os.trans h1.os) (h2.tape.trans h1.tape) (h2.output.trans h1.output) (Nat.le_trans h1.size h2.size) (fun k hk hn => (h2.block k (by have := h1.size; omega) (fun hF => by have := hf k hF; omega)).trans (h1.block k hk hn))).trans h3
set_option maxHeartbeats 2000000 in
set_option maxRecDepth 100000 in
theorem resize_nil {w : World} {B o : Nat} {proto : Int} (hb : Box w o 38 (objC 1 proto false (.pointer none) (.slice none 0 0))) (hB : B ≤ w.heap.size) (n' : Nat) (hn : n' ≤ 10000) (hc : 0 < n') :
    Calls Tryd.prog 67 #[.pointer (some ⟨o, 0, none⟩), .int .i64 (n' : Int)] w fun e w' => e = .returned (.tuple #[]) ∧ ElP w B o proto (.slice none 0 0) n' w' := by
  obtain ⟨i0, hi, hz0, hz1, hz2⟩ := info_parts Tryd.infoW
  obtain ⟨g, hg⟩ : ∃ g, w.heap.size = g := ⟨_, rfl⟩
  obtain ⟨cap, hcap⟩ : ∃ cap, n' + n' / 2 = cap := ⟨_, rfl⟩
  have hn00 : ((0 : Nat) : Int) = 0 := rfl
  have hmk := run_make (P := Tryd.prog) w 31 45 i0 _ Tryd.underlying31 hi hz0 .i64 .i64 (0 : Int) ((cap : Nat) : Int) (by omega) (by omega) (by rw [hz2]; omega) (by omega)
  rw [hz1, show (Value.agg zC).cells = zC from rfl, Int.toNat_natCast] at hmk
  have bx := Box.new w 45 (madeCells zC (cap * 3))
  have hal : Below w.heap.size w (w.alloc (.cells (madeCells zC (cap * 3)) 45)) := (Below.refl _ _).alloc (Nat.le_refl _) _
  have hbo1 := hb.below hal
  have hol := hb.lt
  have hmk2 : (Instr.makeSlice 31 (.int .i64 0) (.int .i64 (cap : Int))).run Tryd.prog w = .ok (.slice (some ⟨w.heap.size, 0, none⟩) 0 cap) (w.alloc (.cells (madeCells zC (cap * 3)) 45)) := hmk
  clear hmk
  obtain ⟨W1, hW1⟩ : ∃ W1, w.alloc (.cells (madeCells zC (cap * 3)) 45) = W1 := ⟨_, rfl⟩
  rw [hW1] at hmk2 bx hal hbo1
  rw [hg] at hmk2 bx
  have hcp := fun ty => run_copy3_nil W1 ty g cap
  have HEL : Veil (ELg W1 B g 0 cap (fun _ => zV)) := ⟨⟨by omega, Nat.zero_le _, by omega, _, bx, by exact made_tp cap⟩⟩
  have HW1 := Veil.mk hW1
  have hcells : ∃ WC, WC = W1 := ⟨_, rfl⟩
  clear hW1
  have hboC := hbo1
  have HTC : Veil (Touch (fun k => k = g) W1 W1) := ⟨Touch.refl _ _⟩
  have o4 : w.cell? ⟨o, 4, none⟩ = some (.slice none 0 0) := hb.at_ 4
  have o41 : W1.cell? ⟨o, 4, none⟩ = some (.slice none 0 0) := hbo1.at_ 4
  have o4C : W1.cell? ⟨o, 4, none⟩ = some (.slice none 0 0) := hboC.at_ 4
  have o4Cf := hboC.free 4
  have hgo : ¬ o = g := by omega
  have t4 := Touch.put (S := fun k => k = o) (w := W1) rfl 4 (.slice (some ⟨g, 0, none⟩) 0 cap)
  have hboD := hboC.put 4 (.slice (some ⟨g, 0, none⟩) 0 cap)
  have helD := HEL.out.touch t4 (fun e => hgo e.symm)
  have htD : Touch (fun k => k = o ∨ (.slice none 0 0 : Value).ownBlock = some k) w (W1.setCell ⟨o, 4, none⟩ (.slice (some ⟨g, 0, none⟩) 0 cap)) := touch_fresh (Touch.of_below hal) HTC.out (t4.mono (S' := fun k => k = o ∨ (.slice none 0 0 : Value).ownBlock = some k) (fun k hk => .inl hk)) (fun k hk => by omega)
  obtain ⟨WD, hWD⟩ : ∃ WD, W1.setCell ⟨o, 4, none⟩ (.slice (some ⟨g, 0, none⟩) 0 cap) = WD := ⟨_, rfl⟩
  rw [hWD] at hboD helD htD
  have o4D : WD.cell? ⟨o, 4, none⟩ = some (.slice (some ⟨g, 0, none⟩) 0 cap) := hboD.at_ 4
  have o4Df := hboD.free 4
  have tp := Touch.put (S := fun k => k = o) (w := WD) rfl 4 (.slice (some ⟨g, 0, none⟩) n' cap)
  have HR := Veil.mk (And.intro (hboD.put 4 (.slice (some ⟨g, 0, none⟩) n' cap)) (And.intro ((helD.touch tp (fun e => hgo e.symm)).resized n' (by omega)) (And.intro (htD.trans (tp.mono (S' := fun k => k = o ∨ (.slice none 0 0 : Value).ownBlock = some k) (fun k hk => .inl hk))) hgo)))
  have HWD := Veil.mk hWD
  have hc' : (0 : Int) < (n' : Int) := by omega
  have hn0 : (0 : Int) ≤ (n' : Int) := by omega
  have hc2 : (n' : Int) ≤ (cap : Int) := by omega
  have hcq : (n' : Int) + (n' : Int) / 2 = (cap : Int) := by omega
  have hnn : ¬ (n' : Int) < (0 : Int) := by omega
  have hnb : (n' : Int) ≤ 10000 := by omega
  have HG := Veil.mk hg
  clear hWD hboD helD htD tp t4 hboC hbo1 hal bx hb HEL HTC hcap hg hol
  go_enter Tryd.func67, Tryd.ntmps67
  go_upto_region 3 with (at_builtin; refine Lib.wpList_copy_run _ rfl _ _ _ _ rfl _ _ rfl rfl (hcp _) ?_)
  go_upto_region 4 with (fail)
  rw [HWD.out]
  clear o4 o41 o4C o4Cf hcp hmk2
  go_upto_region 8 with (fail)
  obtain ⟨hbo, hel, htw, hfr⟩ := HR.out
  have HTW := Veil.mk (And.intro htw hfr)
  have HST0 := Veil.mk (And.intro hbo hel)
  have HB0 := Veil.mk (Touch.refl (fun k => k = g) (WD.setCell ⟨o, 4, none⟩ (.slice (some ⟨g, 0, none⟩) n' cap)))
  clear hbo hel htw hfr HR
  obtain ⟨WB, hWB⟩ : ∃ WB, WB = (WD.setCell ⟨o, 4, none⟩ (.slice (some ⟨g, 0, none⟩) n' cap)) := ⟨_, rfl⟩
  rw [← hWB] at HTW HST0 HB0
  rw [← hWB]
  clear hWB o4D o4Df
  go_wp2
  go_loopw [6] (fun i wr => ∃ (j : Nat) (xs' : Nat → Vt), i = .int .i64 (j : Int) ∧ Box wr o 38 (objC 1 proto false (.pointer none) (.slice (some ⟨g, 0, none⟩) n' cap)) ∧ ELg wr B g n' cap xs' ∧ Touch (fun k => k = g) WB wr) (fun i _ => n' - (intOf i).toNat)
  case atStart => exact ⟨0, _, rfl, HST0.out.1, HST0.out.2, HB0.out⟩
  case round =>
    clear HST0 HB0
    obtain ⟨j, xs', rfl, hbo, hel, hti⟩ := hrel
    have hj0 : (0 : Int) ≤ (j : Int) := by omega
    by_cases hlt : j < n'
    · have hlt' : (j : Int) < (n' : Int) := by omega
      have hjc : j < cap := by have := hel.le; omega
      have o4 : wr.cell? ⟨o, 4, none⟩ = some (.slice (some ⟨g, 0, none⟩) n' cap) := hbo.at_ 4
      obtain ⟨c0, c1, c2⟩ := hel.cell j hjc
      have f0 := hel.free (j * 3)
      have f1 := hel.free (j * 3 + 1)
      have f2 := hel.free (j * 3 + 2)
      obtain ⟨s1, s2⟩ := hel.set j hjc (10, 0, ⟨#[]⟩)
      have hne : ¬ o = g := hbo.lab.ne hel.lab (by decide)
      have HN := Veil.mk (And.intro (hbo.touch s2 hne) (And.intro s1 (hti.trans s2)))
      have hnb : (n' : Int) ≤ 10000 := by omega
      clear hbo hel hti s1 s2
      go_wp2
      go_roundw
      case rel => exact ⟨j + 1, _, by go_num, HN.out.1, HN.out.2.1, HN.out.2.2⟩
      case measure => simp [intOf]; omega
    · have hlt' : ¬ (j : Int) < (n' : Int) := by omega
      have HF := Veil.mk (And.intro hbo (And.intro hel hti))
      clear hbo hel hti
      go_wp2
      obtain ⟨hbo, hel, hti⟩ := HF.out
      exact bodyPost_end (results_none rfl _ _ _) rfl ⟨rfl, _, xs', hbo, .inr ⟨g, cap, rfl, hel⟩, touch_fresh HTW.out.1 hti (Touch.refl _ _) (fun k hk => by have := HG.out; omega), fun k hk => .inr (by rw [show k = g from (Option.some.inj hk).symm]; exact Nat.le_of_eq HG.out)⟩
set_option maxHeartbeats 2000000 in
set_option maxRecDepth 100000 in
theorem resize_grow {w : World} {B o g0 n cap0 : Nat} {proto : Int} {xs : Nat → Vt} (hb : Box w o 38 (objC 1 proto false (.pointer none) (.slice (some ⟨g0, 0, none⟩) n cap0))) (he : ELg w B g0 n cap0 xs) (hB : B ≤ w.heap.size) (n' : Nat) (hn : n' ≤ 10000) (hc : cap0 < n') :
    Calls Tryd.prog 67 #[.pointer (some ⟨o, 0, none⟩), .int .i64 (n' : Int)] w fun e w' => e = .returned (.tuple #[]) ∧ ElP w B o proto (.slice (some ⟨g0, 0, none⟩) n cap0) n' w' := by
  obtain ⟨i0, hi, hz0, hz1, hz2⟩ := info_parts Tryd.infoW
  obtain ⟨g, hg⟩ : ∃ g, w.heap.size = g := ⟨_, rfl⟩
  obtain ⟨cap, hcap⟩ : ∃ cap, n' + n' / 2 = cap := ⟨_, rfl⟩
  have hle := he.le
  have hsm := he.sm
  have hmk := run_make (P := Tryd.prog) w 31 45 i0 _ Tryd.underlying31 hi hz0 .i64 .i64 (n : Int) ((cap : Nat) : Int) (by omega) (by omega) (by rw [hz2]; omega) (by omega)
  rw [hz1, show (Value.agg zC).cells = zC from rfl, Int.toNat_natCast, Int.toNat_natCast] at hmk
  have bx := Box.new w 45 (madeCells zC (cap * 3))
  have hal : Below w.heap.size w (w.alloc (.cells (madeCells zC (cap * 3)) 45)) := (Below.refl _ _).alloc (Nat.le_refl _) _
  have hbo1 := hb.below hal
  have hol := hb.lt
  have he1 := he.on hal
  obtain ⟨cur, hcx, htx⟩ := he1.bx
  have hg0l := he.lt
  obtain ⟨W1, hW1⟩ : ∃ W1, w.alloc (.cells (madeCells zC (cap * 3)) 45) = W1 := ⟨_, rfl⟩
  rw [hW1] at hmk bx hal hbo1 he1 hcx
  rw [hg] at hmk bx
  have htk : TpX (cur.toList.take (n * 3)) n xs := by
    refine ⟨by rw [List.length_take]; have := htx.1; omega, fun i hi => ?_⟩
    obtain ⟨x0, x1, x2⟩ := htx.2 i (by omega)
    refine ⟨?_, ?_, ?_⟩
    · rw [List.getElem?_take, if_pos (by omega)]; exact x0
    · rw [List.getElem?_take, if_pos (by omega)]; exact x1
    · rw [List.getElem?_take, if_pos (by omega)]; exact x2
  have hsrc : ∀ j v, (cur.toList.take (n * 3))[j]? = some v → W1.cell? ((⟨g0, 0, none⟩ : Addr).add j) = some v := fun j v hj => by
    rw [List.getElem?_take] at hj
    split at hj
    · have e : ((⟨g0, 0, none⟩ : Addr).add j) = ⟨g0, j, none⟩ := by
        unfold Addr.add; split
        · simp [*]
        · simp
      rw [e, hcx.at_ j]
      simpa using hj
    · cases hj
  have hcp := fun ty => run_copy3 W1 ty g cap n cap0 ⟨g0, 0, none⟩ _ _ bx htk.1 hsrc (by rw [htk.1, size_madeCells]; omega) htk.one
  have bxC : Box (W1.setRow g ((madeCells zC (cap * 3)).toList.take (0 * 3) ++ cur.toList.take (n * 3) ++ (madeCells zC (cap * 3)).toList.drop (0 * 3 + (cur.toList.take (n * 3)).length)).toArray) g 45 _ := setRow_heap W1 g _ _ _ _ bx
  have hspl := (made_tp cap).splice htk (o := 0) (by omega)
  have tr := setRow_touch W1 g ((madeCells zC (cap * 3)).toList.take (0 * 3) ++ cur.toList.take (n * 3) ++ (madeCells zC (cap * 3)).toList.drop (0 * 3 + (cur.toList.take (n * 3)).length)).toArray
  obtain ⟨WC, hWC⟩ : ∃ WC, W1.setRow g ((madeCells zC (cap * 3)).toList.take (0 * 3) ++ cur.toList.take (n * 3) ++ (madeCells zC (cap * 3)).toList.drop (0 * 3 + (cur.toList.take (n * 3)).length)).toArray = WC := ⟨_, rfl⟩
  rw [hWC] at hcp bxC tr
  have hboC := hbo1.touch tr (by omega)
  have HEL : Veil (ELg WC B g n cap _) := ⟨⟨by omega, by omega, by omega, _, bxC, hspl⟩⟩
  have HTC : Veil (Touch (fun k => k = g) W1 WC) := ⟨tr⟩
  have HW1 := Veil.mk hW1
  clear hW1 hWC he he1 hcx htx htk hsrc bxC hspl tr
  have o4 : w.cell? ⟨o, 4, none⟩ = some (.slice (some ⟨g0, 0, none⟩) n cap0) := hb.at_ 4
  have o41 : W1.cell? ⟨o, 4, none⟩ = some (.slice (some ⟨g0, 0, none⟩) n cap0) := hbo1.at_ 4
  have o4C : WC.cell? ⟨o, 4, none⟩ = some (.slice (some ⟨g0, 0, none⟩) n cap0) := hboC.at_ 4
  have o4Cf := hboC.free 4
  have hgo : ¬ o = g := by omega
  have t4 := Touch.put (S := fun k => k = o) (w := WC) rfl 4 (.slice (some ⟨g, 0, none⟩) n cap)
  have hboD := hboC.put 4 (.slice (some ⟨g, 0, none⟩) n cap)
  have helD := HEL.out.touch t4 (fun e => hgo e.symm)
  have htD : Touch (fun k => k = o ∨ (.slice (some ⟨g0, 0, none⟩) n cap0 : Value).ownBlock = some k) w (WC.setCell ⟨o, 4, none⟩ (.slice (some ⟨g, 0, none⟩) n cap)) := touch_fresh (Touch.of_below hal) HTC.out (t4.mono (S' := fun k => k = o ∨ (.slice (some ⟨g0, 0, none⟩) n cap0 : Value).ownBlock = some k) (fun k hk => .inl hk)) (fun k hk => by omega)
  obtain ⟨WD, hWD⟩ : ∃ WD, WC.setCell ⟨o, 4, none⟩ (.slice (some ⟨g, 0, none⟩) n cap) = WD := ⟨_, rfl⟩
  rw [hWD] at hboD helD htD
  have o4D : WD.cell? ⟨o, 4, none⟩ = some (.slice (some ⟨g, 0, none⟩) n cap) := hboD.at_ 4
  have o4Df := hboD.free 4
  have tp := Touch.put (S := fun k => k = o) (w := WD) rfl 4 (.slice (some ⟨g, 0, none⟩) n' cap)
  have HR := Veil.mk (And.intro (hboD.put 4 (.slice (some ⟨g, 0, none⟩) n' cap)) (And.intro ((helD.touch tp (fun e => hgo e.symm)).resized n' (by omega)) (And.intro (htD.trans (tp.mono (S' := fun k => k = o ∨ (.slice (some ⟨g0, 0, none⟩) n cap0 : Value).ownBlock = some k) (fun k hk => .inl hk))) hgo)))
  have HWD := Veil.mk hWD
  have hc' : (cap0 : Int) < (n' : Int) := by omega
  have hn0 : (0 : Int) ≤ (n' : Int) := by omega
  have hc2 : (n' : Int) ≤ (cap : Int) := by omega
  have hcq : (n' : Int) + (n' : Int) / 2 = (cap : Int) := by omega
  have hnn : ¬ (n' : Int) < (n : Int) := by omega
  have hnb : (n' : Int) ≤ 10000 := by omega
  have HG := Veil.mk hg
  clear hWD hboD helD htD tp t4 hboC hbo1 hal bx hb HEL HTC hcap hg hol
  go_enter Tryd.func67, Tryd.ntmps67
  go_upto_region 3 with (at_builtin; refine Lib.wpList_copy_run _ rfl _ _ _ _ rfl _ _ rfl rfl (hcp _) ?_)
  go_upto_region 4 with (fail)
  rw [HWD.out]
  clear o4 o41 o4C o4Cf hcp hmk
  go_upto_region 8 with (fail)
  obtain ⟨hbo, hel, htw, hfr⟩ := HR.out
  have HTW := Veil.mk (And.intro htw hfr)
  have HST0 := Veil.mk (And.intro hbo hel)
  have HB0 := Veil.mk (Touch.refl (fun k => k = g) (WD.setCell ⟨o, 4, none⟩ (.slice (some ⟨g, 0, none⟩) n' cap)))
  clear hbo hel htw hfr HR
  obtain ⟨WB, hWB⟩ : ∃ WB, WB = (WD.setCell ⟨o, 4, none⟩ (.slice (some ⟨g, 0, none⟩) n' cap)) := ⟨_, rfl⟩
  rw [← hWB] at HTW HST0 HB0
  rw [← hWB]
  clear hWB o4D o4Df
  go_wp2
  go_loopw [6] (fun i wr => ∃ (j : Nat) (xs' : Nat → Vt), i = .int .i64 (j : Int) ∧ Box wr o 38 (objC 1 proto false (.pointer none) (.slice (some ⟨g, 0, none⟩) n' cap)) ∧ ELg wr B g n' cap xs' ∧ Touch (fun k => k = g) WB wr) (fun i _ => n' - (intOf i).toNat)
  case atStart => exact ⟨n, _, rfl, HST0.out.1, HST0.out.2, HB0.out⟩
  case round =>
    clear HST0 HB0
    obtain ⟨j, xs', rfl, hbo, hel, hti⟩ := hrel
    have hj0 : (0 : Int) ≤ (j : Int) := by omega
    by_cases hlt : j < n'
    · have hlt' : (j : Int) < (n' : Int) := by omega
      have hjc : j < cap := by have := hel.le; omega
      have o4 : wr.cell? ⟨o, 4, none⟩ = some (.slice (some ⟨g, 0, none⟩) n' cap) := hbo.at_ 4
      obtain ⟨c0, c1, c2⟩ := hel.cell j hjc
      have f0 := hel.free (j * 3)
      have f1 := hel.free (j * 3 + 1)
      have f2 := hel.free (j * 3 + 2)
      obtain ⟨s1, s2⟩ := hel.set j hjc (10, 0, ⟨#[]⟩)
      have hne : ¬ o = g := hbo.lab.ne hel.lab (by decide)
      have HN := Veil.mk (And.intro (hbo.touch s2 hne) (And.intro s1 (hti.trans s2)))
      have hnb : (n' : Int) ≤ 10000 := by omega
      clear hbo hel hti s1 s2
      go_wp2
      go_roundw
      case rel => exact ⟨j + 1, _, by go_num, HN.out.1, HN.out.2.1, HN.out.2.2⟩
      case measure => simp [intOf]; omega
    · have hlt' : ¬ (j : Int) < (n' : Int) := by omega
      have HF := Veil.mk (And.intro hbo (And.intro hel hti))
      clear hbo hel hti
      go_wp2
      obtain ⟨hbo, hel, hti⟩ := HF.out
      exact bodyPost_end (results_none rfl _ _ _) rfl ⟨rfl, _, xs', hbo, .inr ⟨g, cap, rfl, hel⟩, touch_fresh HTW.out.1 hti (Touch.refl _ _) (fun k hk => by have := HG.out; omega), fun k hk => .inr (by rw [show k = g from (Option.some.inj hk).symm]; exact Nat.le_of_eq HG.out)⟩
end Go.Proofs.YtbeapojjbgkalaaDoor
