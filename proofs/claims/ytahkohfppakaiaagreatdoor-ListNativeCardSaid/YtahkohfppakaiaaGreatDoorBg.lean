/- Texts of the stage, joined: Ma Mb Mc Md Me Uq. -/
import Derived.Test.YtahkohfppakaiaaGreatDoorBd
import Derived.Laws.CopyRow
import Derived.Lib.SlBuf
import Derived.Test.YtahkohfppakaiaaGreatDoorBb
import Derived.Test.YtahkohfppakaiaaGreatDoorBe
import Derived.Maps.AppendAt
set_option maxHeartbeats 40000000
set_option maxRecDepth 100000
namespace Go.Proofs.YtahkohfppakaiaaGreatDoor
open Go Go.RowKit
def TpX (l : List Value) (cap : Nat) (xs : Nat -> Vt) : Prop := l.length = cap * 3 /\ ∀ i, i < cap -> l[i * 3]? = some (.int .i64 (xs i).1) /\ l[i * 3 + 1]? = some (.int .i64 (xs i).2.1) /\ l[i * 3 + 2]? = some (.string (xs i).2.2)
theorem spl_get (l m : List Value) (a j : Nat) (ha : a + m.length <= l.length) : (l.take a ++ m ++ l.drop (a + m.length))[j]? = if j < a then l[j]? else if j < a + m.length then m[j - a]? else l[j]? := by
 have e : min a l.length = a := by omega
 split
 ·rename_i h
  rw [List.append_assoc, List.getElem?_append_left (by rw [List.length_take]; omega), List.getElem?_take, if_pos h]
 ·rename_i h
  rw [List.append_assoc, List.getElem?_append_right (by rw [List.length_take]; omega), List.length_take, e]
  split
  ·rename_i h2
   rw [List.getElem?_append_left (by omega)]
  ·rename_i h2
   rw [List.getElem?_append_right (by omega), List.getElem?_drop]
   congr 1
   omega
theorem TpX.splice {l m : List Value} {cap k o : Nat} {xs ys : Nat -> Vt} (h : TpX l cap xs) (h2 : TpX m k ys) (ho : o + k <= cap) : TpX (l.take (o * 3) ++ m ++ l.drop (o * 3 + m.length)) cap (fun i => if o <= i /\ i < o + k then ys (i - o) else xs i) := by
 have hm := h2.1
 have hl := h.1
 refine ⟨?_, fun i hi => ?_⟩
 ·rw [List.length_append, List.length_append, List.length_take, List.length_drop]
  omega
 ·have key : ∀ d, d < 3 -> (l.take (o * 3) ++ m ++ l.drop (o * 3 + m.length))[i * 3 + d]? = if o <= i /\ i < o + k then m[(i - o) * 3 + d]? else l[i * 3 + d]? := fun d hd => by
   rw [spl_get _ _ _ _ (by omega)]
   by_cases c : o <= i /\ i < o + k
   ·rw [if_neg (by omega), if_pos (by omega), if_pos c]
    congr 1
    omega
   ·rw [if_neg c]
    split
    ·rfl
    ·rw [if_neg (by omega)]
  have k0 := key 0 (by omega)
  rw [key 1 (by omega), key 2 (by omega)]
  simp only [Nat.add_zero] at k0
  rw [k0]
  by_cases c : o <= i /\ i < o + k
  ·simp only [if_pos c]
   exact h2.2 (i - o) (by omega)
  ·simp only [if_neg c]
   exact h.2 i hi
abbrev zV : Vt := (0, 0, ⟨#[]⟩)
abbrev zC : Array Value := #[.int .i64 0, .int .i64 0, .string ⟨#[]⟩]
theorem TpX.of_mod {l : List Value} (cap : Nat) (hl : l.length = cap * 3) (h : ∀ j, j < cap * 3 -> l[j]? = some (zC[j % 3]!)) : TpX l cap (fun _ => zV) := by
 refine ⟨hl, fun i hi => ?_⟩
 refine ⟨(h (i * 3) (by omega)).trans ?_, (h (i * 3 + 1) (by omega)).trans ?_, (h (i * 3 + 2) (by omega)).trans ?_⟩
 ·rw [show i * 3 % 3 = 0 by omega]; rfl
 ·rw [show (i * 3 + 1) % 3 = 1 by omega]; rfl
 ·rw [show (i * 3 + 2) % 3 = 2 by omega]; rfl
theorem zero_tp (n : Nat) : TpX (Builtin.zeroCells zC n).toList n (fun _ => zV) := by
 refine TpX.of_mod n (by simp [Builtin.zeroCells]) fun j hj => ?_
 simp [Builtin.zeroCells, hj]
theorem made_tp (n : Nat) : TpX (madeCells zC (n * 3)).toList n (fun _ => zV) := by
 refine TpX.of_mod n (by simp [madeCells]) fun j hj => ?_
 simp [madeCells, hj]
theorem TpX.one {l : List Value} {cap : Nat} {xs : Nat -> Vt} (h : TpX l cap xs) : ∀ u ∈ l, u.oneCell' = true := fun u hu => by
 obtain ⟨j, hj⟩ := List.mem_iff_getElem?.1 hu
 have hlt := (List.getElem?_eq_some_iff.1 hj).1
 rw [h.1] at hlt
 obtain ⟨h0, h1, h2⟩ := h.2 (j / 3) (by omega)
 have hc : j = j / 3 * 3 \/ j = j / 3 * 3 + 1 \/ j = j / 3 * 3 + 2 := by omega
 rcases hc with e | e | e
 ·rw [e, h0] at hj; cases hj; rfl
 ·rw [e, h1] at hj; cases hj; rfl
 ·rw [e, h2] at hj; cases hj; rfl
theorem Tryz.infoZ : (Tryz.prog.info? 28).map (fun i => (i.zero, i.size, i.bytes)) = some (some (.agg zC), 3, 32) := by kernel_rfl
theorem run_copy3 (w : World) (ty : TypeId) (g dCap n sCap : Nat) (a : Addr) (cur : Array Value) (cs : List Value) (hg : Box w g 28 cur) (hn : cs.length = n * 3)
  (hsrc : ∀ j v, cs[j]? = some v -> w.cell? (a.add j) = some v) (hfit : cs.length <= cur.size) (h1 : ∀ v ∈ cs, v.oneCell' = true) :
  (Builtin.copy_ #[30, 30] ty #[.slice (some ⟨g, 0, none⟩) n dCap, .slice (some a) n sCap]).run Tryz.prog w = .ok (goInt n) (w.setRow g (cur.toList.take (0 * 3) ++ cs ++ cur.toList.drop (0 * 3 + cs.length)).toArray) := by
 obtain ⟨i, hi, hz0, hz1, hz2⟩ := info_parts Tryz.infoZ
 have hl := run_loadCells_list (P := Tryz.prog) w a cs hsrc
 have hst := run_storeCells_at Tryz.prog g 0 28 cs 0 cur w hg (by simpa using hfit) h1
 have hmn : Nat.min n n = n := Nat.min_self n
 simp only [Nat.zero_add] at hst
 simp [Builtin.copy_, run_underlying Tryz.underlying30, Builtin.lenOf, Builtin.firstCells, sizeOf, typeInfo, hi, hz1, hmn, <- hn, hl, hst]
theorem run_copy3_nil (w : World) (ty : TypeId) (g dCap : Nat) : (Builtin.copy_ #[30, 30] ty #[.slice (some ⟨g, 0, none⟩) 0 dCap, .slice none 0 0]).run Tryz.prog w = .ok (goInt 0) w :=
 run_copy_nil Tryz.prog w _ _ ty 28 ⟨g, 0, none⟩ 0 dCap Tryz.underlying30 (by kernel_rfl)
theorem run_clear3 (w : World) (ty : TypeId) (g o n c : Nat) (cur : Array Value) (hg : Box w g 28 cur) (hn : 0 < n) (hfit : o * 3 + n * 3 <= cur.size) :
  (Builtin.clear_ #[30] ty #[.slice (some ⟨g, o * 3, none⟩) n c]).run Tryz.prog w = .ok (.tuple #[]) (w.setRow g (cur.toList.take (o * 3) ++ (Builtin.zeroCells zC n).toList ++ cur.toList.drop (o * 3 + (Builtin.zeroCells zC n).toList.length)).toArray) := by
 obtain ⟨i, hi, hz0, hz1, hz2⟩ := info_parts Tryz.infoZ
 have hst := run_storeCells_at Tryz.prog g (o * 3) 28 (Builtin.zeroCells zC n).toList 0 cur w hg (by rw [(zero_tp n).1]; omega) (zero_tp n).one
 simp only [Nat.add_zero] at hst
 have hzv : (zeroValue 28).run Tryz.prog w = .ok (.agg zC) w := by simp [zeroValue, typeInfo, hi, hz0]
 obtain ⟨m, rfl⟩ : ∃ m, n = m + 1 := ⟨n - 1, by omega⟩
 have hcz : (Value.agg zC).cells = zC := rfl
 simp [Builtin.clear_, run_underlying Tryz.underlying30, hzv, hcz, hst]
structure ELg (w : World) (B g n cap : Nat) (xs : Nat -> Vt) : Prop where
 lo : B <= g
 le : n <= cap
 sm : cap <= 9223372036854775807
 bx : ∃ cur, Box w g 28 cur /\ TpX cur.toList cap xs
def EL (w : World) (B : Nat) (ev : Value) (n : Nat) (xs : Nat -> Vt) : Prop := (ev = .slice none 0 0 /\ n = 0) \/ ∃ g cap, ev = .slice (some ⟨g, 0, none⟩) n cap /\ ELg w B g n cap xs
section
variable {w w' : World} {B g n cap : Nat} {xs : Nat -> Vt} {ev : Value}
theorem ELg.lab (h : ELg w B g n cap xs) : Lab w g 28 := by
 obtain ⟨cur, hb, _⟩ := h.bx
 exact hb.lab
theorem ELg.lt (h : ELg w B g n cap xs) : g < w.heap.size := by
 obtain ⟨cur, hb, _⟩ := h.bx
 exact hb.lt
theorem ELg.touch {S : Nat -> Prop} (h : ELg w B g n cap xs) (ht : Touch S w w') (hn : ¬ S g) : ELg w' B g n cap xs := by
 obtain ⟨cur, hb, hx⟩ := h.bx
 exact ⟨h.lo, h.le, h.sm, cur, hb.touch ht hn, hx⟩
theorem ELg.on (h : ELg w B g n cap xs) (hb : Below w.heap.size w w') : ELg w' B g n cap xs := h.touch (S := fun _ => False) (Touch.of_below hb) (fun h => h)
theorem ELg.cell (h : ELg w B g n cap xs) (i : Nat) (hi : i < cap) : w.cell? ⟨g, i * 3, none⟩ = some (.int .i64 (xs i).1) /\ w.cell? ⟨g, i * 3 + 1, none⟩ = some (.int .i64 (xs i).2.1) /\ w.cell? ⟨g, i * 3 + 2, none⟩ = some (.string (xs i).2.2) := by
 obtain ⟨cur, hb, hx⟩ := h.bx
 obtain ⟨h0, h1, h2⟩ := hx.2 i hi
 exact ⟨(hb.at_ _).trans (by simpa using h0), (hb.at_ _).trans (by simpa using h1), (hb.at_ _).trans (by simpa using h2)⟩
theorem ELg.free (h : ELg w B g n cap xs) (j : Nat) : w.frozen? ⟨g, j, none⟩ = false := by
 obtain ⟨cur, hb, _⟩ := h.bx
 exact hb.free j
theorem ELg.resized (h : ELg w B g n cap xs) (n' : Nat) (hn : n' <= cap) : ELg w B g n' cap xs := ⟨h.lo, hn, h.sm, h.bx⟩
theorem tp_set {l : List Value} {cap : Nat} {xs : Nat -> Vt} (h : TpX l cap xs) (i : Nat) (hi : i < cap) (v : Vt) : TpX (((l.set (i * 3) (.int .i64 v.1)).set (i * 3 + 1) (.int .i64 v.2.1)).set (i * 3 + 2) (.string v.2.2)) cap (fun j => if j = i then v else xs j) := by
 refine ⟨by rw [List.length_set, List.length_set, List.length_set]; exact h.1, fun j hj => ?_⟩
 have hl := h.1
 obtain ⟨h0, h1, h2⟩ := h.2 j hj
 by_cases e : j = i
 ·subst e
  have ex : (fun i => if i = j then v else xs i) j = v := if_pos rfl
  rw [ex]
  refine ⟨?_, ?_, ?_⟩
  ·rw [List.getElem?_set_ne (by omega), List.getElem?_set_ne (by omega), List.getElem?_set_self (by omega)]
  ·rw [List.getElem?_set_ne (by omega), List.getElem?_set_self (by rw [List.length_set]; omega)]
  ·rw [List.getElem?_set_self (by rw [List.length_set, List.length_set]; omega)]
 ·simp only [if_neg e]
  refine ⟨?_, ?_, ?_⟩
  ·rw [List.getElem?_set_ne (by omega), List.getElem?_set_ne (by omega), List.getElem?_set_ne (by omega)]; exact h0
  ·rw [List.getElem?_set_ne (by omega), List.getElem?_set_ne (by omega), List.getElem?_set_ne (by omega)]; exact h1
  ·rw [List.getElem?_set_ne (by omega), List.getElem?_set_ne (by omega), List.getElem?_set_ne (by omega)]; exact h2
theorem ELg.set (h : ELg w B g n cap xs) (i : Nat) (hi : i < cap) (v : Vt) :
  ELg (((w.setCell ⟨g, i * 3, none⟩ (.int .i64 v.1)).setCell ⟨g, i * 3 + 1, none⟩ (.int .i64 v.2.1)).setCell ⟨g, i * 3 + 2, none⟩ (.string v.2.2)) B g n cap (fun j => if j = i then v else xs j) /\
  Touch (fun k => k = g) w (((w.setCell ⟨g, i * 3, none⟩ (.int .i64 v.1)).setCell ⟨g, i * 3 + 1, none⟩ (.int .i64 v.2.1)).setCell ⟨g, i * 3 + 2, none⟩ (.string v.2.2)) := by
 obtain ⟨cur, hb, hx⟩ := h.bx
 refine ⟨⟨h.lo, h.le, h.sm, _, ((hb.put _ _).put _ _).put _ _, ?_⟩, ((Touch.put (S := fun k => k = g) rfl _ _).trans (Touch.put (S := fun k => k = g) rfl _ _)).trans (Touch.put (S := fun k => k = g) rfl _ _)⟩
 rw [Array.toList_setIfInBounds, Array.toList_setIfInBounds, Array.toList_setIfInBounds]
 exact tp_set hx i hi v
theorem setRow_touch (w : World) (g : Nat) (cs : Array Value) : Touch (fun k => k = g) w (w.setRow g cs) := by
 refine ⟨rfl, rfl, rfl, by simp [World.setRow], fun k hk hn => ?_⟩
 have hn : k ≠ g := hn
 show (w.heap.modify g _)[k]? = _
 rw [Array.getElem?_modify, if_neg (fun e => hn e.symm)]
abbrev rz (n : Nat) (xs : Nat -> Vt) : Nat -> Vt := fun j => if j < n then xs j else (10, 0, ⟨#[]⟩)
theorem rz_next {n j n' : Nat} {xs xs' : Nat -> Vt} (hn : n <= j) (h : ∀ q, q < j -> q < n' -> xs' q = rz n xs q) : ∀ q, q < j + 1 -> q < n' -> (if q = j then ((10, 0, ⟨#[]⟩) : Vt) else xs' q) = rz n xs q := fun q h1 h2 => by
 by_cases e : q = j
 ·rw [if_pos e]
  exact (if_neg (by omega)).symm
 ·rw [if_neg e]
  exact h q (by omega) h2
def ElP (w : World) (B o : Nat) (proto : Int) (ev : Value) (n : Nat) (xs : Nat -> Vt) (n' : Nat) (w' : World) : Prop := ∃ ev' xs', Box w' o 63 (objC 1 proto false (.pointer none) ev') /\ EL w' B ev' n' xs' /\ Touch (fun k => k = o \/ ev.ownBlock = some k) w w' /\ (∀ k, ev'.ownBlock = some k -> ev.ownBlock = some k \/ w.heap.size <= k) /\ ∀ j, j < n' -> xs' j = rz n xs j
theorem EL.nil (w : World) (B : Nat) (xs : Nat -> Vt) : EL w B (.slice none 0 0) 0 xs := .inl ⟨rfl, rfl⟩
end
theorem resize_fit {w : World} {B o g n cap : Nat} {proto : Int} {xs : Nat -> Vt} (hb : Box w o 63 (objC 1 proto false (.pointer none) (.slice (some ⟨g, 0, none⟩) n cap))) (he : ELg w B g n cap xs) (n' : Nat) (hn : n' <= 10000) (hc : n' <= cap) :
  Calls Tryz.prog 134 #[.pointer (some ⟨o, 0, none⟩), .int .i64 (n' : Int)] w fun e w' => e = .returned (.tuple #[]) /\ ElP w B o proto (.slice (some ⟨g, 0, none⟩) n cap) n xs n' w' := by
 have hne : ¬ o = g := hb.lab.ne he.lab (by decide)
 have o4 : w.cell? ⟨o, 4, none⟩ = some (.slice (some ⟨g, 0, none⟩) n cap) := hb.at_ 4
 have o4f := hb.free 4
 have hc' : ¬ (cap : Int) < (n' : Int) := by omega
 have hc2 : (n' : Int) <= (cap : Int) := by omega
 have hn0 : (0 : Int) <= (n' : Int) := by omega
 have hle := he.le
 have hsm := he.sm
 by_cases hlt : n' < n
 ·have hlt' : (n' : Int) < (n : Int) := by omega
  obtain ⟨cur, hbx, hx⟩ := he.bx
  have hcl := fun ty => run_clear3 w ty g n' (n - n') (cap - n') cur hbx (by omega) (by have := hx.1; simp at this; omega)
  have hspl := hx.splice (zero_tp (n - n')) (o := n') (by omega)
  have bx2 : Box (w.setRow g (cur.toList.take (n' * 3) ++ (Builtin.zeroCells zC (n - n')).toList ++ cur.toList.drop (n' * 3 + (Builtin.zeroCells zC (n - n')).toList.length)).toArray) g 28 _ := setRow_heap w g cur _ _ _ hbx
  have tr := setRow_touch w g (cur.toList.take (n' * 3) ++ (Builtin.zeroCells zC (n - n')).toList ++ cur.toList.drop (n' * 3 + (Builtin.zeroCells zC (n - n')).toList.length)).toArray
  obtain ⟨W1, hW1⟩ : ∃ W1, w.setRow g (cur.toList.take (n' * 3) ++ (Builtin.zeroCells zC (n - n')).toList ++ cur.toList.drop (n' * 3 + (Builtin.zeroCells zC (n - n')).toList.length)).toArray = W1 := ⟨_, rfl⟩
  rw [hW1] at hcl bx2 tr
  have hel1 : ELg W1 B g n cap _ := ⟨he.lo, he.le, he.sm, _, bx2, hspl⟩
  have hbo1 := hb.touch tr hne
  have o41 : W1.cell? ⟨o, 4, none⟩ = some (.slice (some ⟨g, 0, none⟩) n cap) := hbo1.at_ 4
  have o41f := hbo1.free 4
  have tp := Touch.put (S := fun k => k = o) (w := W1) rfl 4 (.slice (some ⟨g, 0, none⟩) n' cap)
  have HR := Veil.mk (And.intro (hbo1.put 4 (.slice (some ⟨g, 0, none⟩) n' cap)) (And.intro ((hel1.touch tp (fun e => hne e.symm)).resized n' hc) (And.intro ((tr.mono (S' := fun k => k = o \/ (Value.slice (some ⟨g, 0, none⟩) n cap).ownBlock = some k) (fun k hk => .inr (by rw [hk]; rfl))).trans (tp.mono (fun k hk => .inl hk))) hne)))
  have hs1 : ((n : Int) - (n' : Int)) = ((n - n' : Nat) : Int) := by omega
  clear hW1 bx2 tr hspl hbx hx hel1 hbo1 tp hb he
  go_enter Tryz.func134, Tryz.ntmps134
  go_upto_region 8 with (fail)
  obtain ⟨hbo, hel, htw, hfr⟩ := HR.out
  have HTW := Veil.mk (And.intro htw hfr)
  have HST0 := Veil.mk (And.intro hbo hel)
  have HB0 := Veil.mk (Touch.refl (fun k => k = g) (W1.setCell ⟨o, 4, none⟩ (.slice (some ⟨g, 0, none⟩) n' cap)))
  clear hbo hel htw hfr HR
  obtain ⟨WB, hWB⟩ : ∃ WB, WB = (W1.setCell ⟨o, 4, none⟩ (.slice (some ⟨g, 0, none⟩) n' cap)) := ⟨_, rfl⟩
  rw [<- hWB] at HTW HST0 HB0
  rw [<- hWB]
  clear hWB o4 o4f o41 o41f hcl
  go_wp2
  go_loopw [6] (fun i wr => ∃ (j : Nat) (xs' : Nat -> Vt), i = .int .i64 (j : Int) /\ Box wr o 63 (objC 1 proto false (.pointer none) (.slice (some ⟨g, 0, none⟩) n' cap)) /\ ELg wr B g n' cap xs' /\ Touch (fun k => k = g) WB wr /\ n <= j /\ ∀ q, q < j -> q < n' -> xs' q = rz n xs q) (fun i _ => n' - (intOf i).toNat)
  case atStart => exact ⟨n, _, rfl, HST0.out.1, HST0.out.2, HB0.out, Nat.le_refl _, fun q h1 h2 => Eq.trans (by first | rfl | exact if_neg (by omega) | exact if_pos ⟨by omega, by omega⟩) (if_pos h1).symm⟩
  case round =>
   clear HST0 HB0
   obtain ⟨j, xs', rfl, hbo, hel, hti, hnj, hxq⟩ := hrel
   have HXQ := Veil.mk hxq
   clear hxq
   have hj0 : (0 : Int) <= (j : Int) := by omega
   by_cases hlt : j < n'
   ·exfalso; omega
   ·have hlt' : ¬ (j : Int) < (n' : Int) := by omega
    have HF := Veil.mk (And.intro hbo (And.intro hel hti))
    clear hbo hel hti
    go_wp2
    obtain ⟨hbo, hel, hti⟩ := HF.out
    exact bodyPost_end (results_none rfl _ _ _) rfl ⟨rfl, _, xs', hbo, .inr ⟨g, cap, rfl, hel⟩, HTW.out.1.trans (hti.mono (fun k hk => .inr (by rw [hk]; rfl))), fun k hk => .inl hk, fun q hq => HXQ.out q (by omega) hq⟩
 ·have hlt' : ¬ (n' : Int) < (n : Int) := by omega
  have tp := Touch.put (S := fun k => k = o) (w := w) rfl 4 (.slice (some ⟨g, 0, none⟩) n' cap)
  have HR := Veil.mk (And.intro (hb.put 4 (.slice (some ⟨g, 0, none⟩) n' cap)) (And.intro ((he.touch tp (fun e => hne e.symm)).resized n' hc) (And.intro (tp.mono (S' := fun k => k = o \/ (Value.slice (some ⟨g, 0, none⟩) n cap).ownBlock = some k) (fun k hk => .inl hk)) hne)))
  clear hb he tp
  go_enter Tryz.func134, Tryz.ntmps134
  go_upto_region 8 with (fail)
  obtain ⟨hbo, hel, htw, hfr⟩ := HR.out
  have HTW := Veil.mk (And.intro htw hfr)
  have HST0 := Veil.mk (And.intro hbo hel)
  have HB0 := Veil.mk (Touch.refl (fun k => k = g) (w.setCell ⟨o, 4, none⟩ (.slice (some ⟨g, 0, none⟩) n' cap)))
  clear hbo hel htw hfr HR
  obtain ⟨WB, hWB⟩ : ∃ WB, WB = (w.setCell ⟨o, 4, none⟩ (.slice (some ⟨g, 0, none⟩) n' cap)) := ⟨_, rfl⟩
  rw [<- hWB] at HTW HST0 HB0
  rw [<- hWB]
  clear hWB o4 o4f
  go_wp2
  go_loopw [6] (fun i wr => ∃ (j : Nat) (xs' : Nat -> Vt), i = .int .i64 (j : Int) /\ Box wr o 63 (objC 1 proto false (.pointer none) (.slice (some ⟨g, 0, none⟩) n' cap)) /\ ELg wr B g n' cap xs' /\ Touch (fun k => k = g) WB wr /\ n <= j /\ ∀ q, q < j -> q < n' -> xs' q = rz n xs q) (fun i _ => n' - (intOf i).toNat)
  case atStart => exact ⟨n, _, rfl, HST0.out.1, HST0.out.2, HB0.out, Nat.le_refl _, fun q h1 h2 => Eq.trans (by first | rfl | exact if_neg (by omega) | exact if_pos ⟨by omega, by omega⟩) (if_pos h1).symm⟩
  case round =>
   clear HST0 HB0
   obtain ⟨j, xs', rfl, hbo, hel, hti, hnj, hxq⟩ := hrel
   have HXQ := Veil.mk hxq
   clear hxq
   have hj0 : (0 : Int) <= (j : Int) := by omega
   by_cases hlt : j < n'
   ·have hlt' : (j : Int) < (n' : Int) := by omega
    have hjc : j < cap := by have := hel.le; omega
    have o4 : wr.cell? ⟨o, 4, none⟩ = some (.slice (some ⟨g, 0, none⟩) n' cap) := hbo.at_ 4
    obtain ⟨c0, c1, c2⟩ := hel.cell j hjc
    have f0 := hel.free (j * 3)
    have f1 := hel.free (j * 3 + 1)
    have f2 := hel.free (j * 3 + 2)
    obtain ⟨s1, s2⟩ := hel.set j hjc (10, 0, ⟨#[]⟩)
    have hne : ¬ o = g := hbo.lab.ne hel.lab (by decide)
    have HN := Veil.mk (And.intro (hbo.touch s2 hne) (And.intro s1 (hti.trans s2)))
    have hnb : (n' : Int) <= 10000 := by omega
    clear hbo hel hti s1 s2
    go_wp2
    go_roundw
    case rel => exact ⟨j + 1, _, by go_num, HN.out.1, HN.out.2.1, HN.out.2.2, by omega, fun q h1 h2 => rz_next hnj HXQ.out q h1 h2⟩
    case measure => simp [intOf]; omega
   ·have hlt' : ¬ (j : Int) < (n' : Int) := by omega
    have HF := Veil.mk (And.intro hbo (And.intro hel hti))
    clear hbo hel hti
    go_wp2
    obtain ⟨hbo, hel, hti⟩ := HF.out
    exact bodyPost_end (results_none rfl _ _ _) rfl ⟨rfl, _, xs', hbo, .inr ⟨g, cap, rfl, hel⟩, HTW.out.1.trans (hti.mono (fun k hk => .inr (by rw [hk]; rfl))), fun k hk => .inl hk, fun q hq => HXQ.out q (by omega) hq⟩
theorem touch_fresh {S F : Nat -> Prop} {w a b c : World} (h1 : Touch S w a) (h2 : Touch F a b) (h3 : Touch S b c) (hf : ∀ k, F k -> w.heap.size <= k) : Touch S w c :=
 (Touch.mk (h2.os.trans h1.os) (h2.tape.trans h1.tape) (h2.output.trans h1.output) (Nat.le_trans h1.size h2.size) (fun k hk hn => (h2.block k (by have := h1.size; omega) (fun hF => by have := hf k hF; omega)).trans (h1.block k hk hn))).trans h3
theorem resize_nil {w : World} {B o : Nat} {proto : Int} (hb : Box w o 63 (objC 1 proto false (.pointer none) (.slice none 0 0))) (hB : B <= w.heap.size) (n' : Nat) (hn : n' <= 10000) (hc : 0 < n') (xs : Nat -> Vt) :
  Calls Tryz.prog 134 #[.pointer (some ⟨o, 0, none⟩), .int .i64 (n' : Int)] w fun e w' => e = .returned (.tuple #[]) /\ ElP w B o proto (.slice none 0 0) 0 xs n' w' := by
 obtain ⟨i0, hi, hz0, hz1, hz2⟩ := info_parts Tryz.infoZ
 obtain ⟨g, hg⟩ : ∃ g, w.heap.size = g := ⟨_, rfl⟩
 obtain ⟨cap, hcap⟩ : ∃ cap, n' + n' / 2 = cap := ⟨_, rfl⟩
 have hn00 : ((0 : Nat) : Int) = 0 := rfl
 have hmk := run_make (P := Tryz.prog) w 30 28 i0 _ Tryz.underlying30 hi hz0 .i64 .i64 (0 : Int) ((cap : Nat) : Int) (by omega) (by omega) (by rw [hz2]; omega) (by omega)
 rw [hz1, show (Value.agg zC).cells = zC from rfl, Int.toNat_natCast] at hmk
 have bx := Box.new w 28 (madeCells zC (cap * 3))
 have hal : Below w.heap.size w (w.alloc (.cells (madeCells zC (cap * 3)) 28)) := (Below.refl _ _).alloc (Nat.le_refl _) _
 have hbo1 := hb.below hal
 have hol := hb.lt
 have hmk2 : (Instr.makeSlice 30 (.int .i64 0) (.int .i64 (cap : Int))).run Tryz.prog w = .ok (.slice (some ⟨w.heap.size, 0, none⟩) 0 cap) (w.alloc (.cells (madeCells zC (cap * 3)) 28)) := hmk
 clear hmk
 obtain ⟨W1, hW1⟩ : ∃ W1, w.alloc (.cells (madeCells zC (cap * 3)) 28) = W1 := ⟨_, rfl⟩
 rw [hW1] at hmk2 bx hal hbo1
 rw [hg] at hmk2 bx
 have hcp := fun ty => run_copy3_nil W1 ty g cap
 have HEL : Veil (ELg W1 B g 0 cap (fun _ => zV)) := ⟨⟨by omega, Nat.zero_le _, by omega, _, bx, by exact made_tp cap⟩⟩
 have HW1 := Veil.mk hW1
 have hcells : ∃ WC, WC = W1 := ⟨_, rfl⟩
 clear hW1
 have hboC := hbo1
 have HTC : Veil (Touch (fun k => k = g) W1 W1) := ⟨Touch.refl _ _⟩
 have o4 : w.cell? ⟨o, 4, none⟩ = some (.slice none 0 0) := hb.at_ 4
 have o41 : W1.cell? ⟨o, 4, none⟩ = some (.slice none 0 0) := hbo1.at_ 4
 have o4C : W1.cell? ⟨o, 4, none⟩ = some (.slice none 0 0) := hboC.at_ 4
 have o4Cf := hboC.free 4
 have hgo : ¬ o = g := by omega
 have t4 := Touch.put (S := fun k => k = o) (w := W1) rfl 4 (.slice (some ⟨g, 0, none⟩) 0 cap)
 have hboD := hboC.put 4 (.slice (some ⟨g, 0, none⟩) 0 cap)
 have helD := HEL.out.touch t4 (fun e => hgo e.symm)
 have htD : Touch (fun k => k = o \/ (.slice none 0 0 : Value).ownBlock = some k) w (W1.setCell ⟨o, 4, none⟩ (.slice (some ⟨g, 0, none⟩) 0 cap)) := touch_fresh (Touch.of_below hal) HTC.out (t4.mono (S' := fun k => k = o \/ (.slice none 0 0 : Value).ownBlock = some k) (fun k hk => .inl hk)) (fun k hk => by omega)
 obtain ⟨WD, hWD⟩ : ∃ WD, W1.setCell ⟨o, 4, none⟩ (.slice (some ⟨g, 0, none⟩) 0 cap) = WD := ⟨_, rfl⟩
 rw [hWD] at hboD helD htD
 have o4D : WD.cell? ⟨o, 4, none⟩ = some (.slice (some ⟨g, 0, none⟩) 0 cap) := hboD.at_ 4
 have o4Df := hboD.free 4
 have tp := Touch.put (S := fun k => k = o) (w := WD) rfl 4 (.slice (some ⟨g, 0, none⟩) n' cap)
 have HR := Veil.mk (And.intro (hboD.put 4 (.slice (some ⟨g, 0, none⟩) n' cap)) (And.intro ((helD.touch tp (fun e => hgo e.symm)).resized n' (by omega)) (And.intro (htD.trans (tp.mono (S' := fun k => k = o \/ (.slice none 0 0 : Value).ownBlock = some k) (fun k hk => .inl hk))) hgo)))
 have HWD := Veil.mk hWD
 have hc' : (0 : Int) < (n' : Int) := by omega
 have hn0 : (0 : Int) <= (n' : Int) := by omega
 have hc2 : (n' : Int) <= (cap : Int) := by omega
 have hcq : (n' : Int) + (n' : Int) / 2 = (cap : Int) := by omega
 have hnn : ¬ (n' : Int) < (0 : Int) := by omega
 have hnb : (n' : Int) <= 10000 := by omega
 have HG := Veil.mk hg
 clear hWD hboD helD htD tp t4 hboC hbo1 hal bx hb HEL HTC hcap hg hol
 go_enter Tryz.func134, Tryz.ntmps134
 go_upto_region 3 with (at_builtin; refine Lib.wpList_copy_run _ rfl _ _ _ _ rfl _ _ rfl rfl (hcp _) ?_)
 go_upto_region 4 with (fail)
 rw [HWD.out]
 clear o4 o41 o4C o4Cf hcp hmk2
 go_upto_region 8 with (fail)
 obtain ⟨hbo, hel, htw, hfr⟩ := HR.out
 have HTW := Veil.mk (And.intro htw hfr)
 have HST0 := Veil.mk (And.intro hbo hel)
 have HB0 := Veil.mk (Touch.refl (fun k => k = g) (WD.setCell ⟨o, 4, none⟩ (.slice (some ⟨g, 0, none⟩) n' cap)))
 clear hbo hel htw hfr HR
 obtain ⟨WB, hWB⟩ : ∃ WB, WB = (WD.setCell ⟨o, 4, none⟩ (.slice (some ⟨g, 0, none⟩) n' cap)) := ⟨_, rfl⟩
 rw [<- hWB] at HTW HST0 HB0
 rw [<- hWB]
 clear hWB o4D o4Df
 go_wp2
 go_loopw [6] (fun i wr => ∃ (j : Nat) (xs' : Nat -> Vt), i = .int .i64 (j : Int) /\ Box wr o 63 (objC 1 proto false (.pointer none) (.slice (some ⟨g, 0, none⟩) n' cap)) /\ ELg wr B g n' cap xs' /\ Touch (fun k => k = g) WB wr /\ 0 <= j /\ ∀ q, q < j -> q < n' -> xs' q = rz 0 xs q) (fun i _ => n' - (intOf i).toNat)
 case atStart => exact ⟨0, _, rfl, HST0.out.1, HST0.out.2, HB0.out, Nat.le_refl _, fun q h1 h2 => absurd h1 (by omega)⟩
 case round =>
  clear HST0 HB0
  obtain ⟨j, xs', rfl, hbo, hel, hti, hnj, hxq⟩ := hrel
  have HXQ := Veil.mk hxq
  clear hxq
  have hj0 : (0 : Int) <= (j : Int) := by omega
  by_cases hlt : j < n'
  ·have hlt' : (j : Int) < (n' : Int) := by omega
   have hjc : j < cap := by have := hel.le; omega
   have o4 : wr.cell? ⟨o, 4, none⟩ = some (.slice (some ⟨g, 0, none⟩) n' cap) := hbo.at_ 4
   obtain ⟨c0, c1, c2⟩ := hel.cell j hjc
   have f0 := hel.free (j * 3)
   have f1 := hel.free (j * 3 + 1)
   have f2 := hel.free (j * 3 + 2)
   obtain ⟨s1, s2⟩ := hel.set j hjc (10, 0, ⟨#[]⟩)
   have hne : ¬ o = g := hbo.lab.ne hel.lab (by decide)
   have HN := Veil.mk (And.intro (hbo.touch s2 hne) (And.intro s1 (hti.trans s2)))
   have hnb : (n' : Int) <= 10000 := by omega
   clear hbo hel hti s1 s2
   go_wp2
   go_roundw
   case rel => exact ⟨j + 1, _, by go_num, HN.out.1, HN.out.2.1, HN.out.2.2, by omega, fun q h1 h2 => rz_next hnj HXQ.out q h1 h2⟩
   case measure => simp [intOf]; omega
  ·have hlt' : ¬ (j : Int) < (n' : Int) := by omega
   have HF := Veil.mk (And.intro hbo (And.intro hel hti))
   clear hbo hel hti
   go_wp2
   obtain ⟨hbo, hel, hti⟩ := HF.out
   exact bodyPost_end (results_none rfl _ _ _) rfl ⟨rfl, _, xs', hbo, .inr ⟨g, cap, rfl, hel⟩, touch_fresh HTW.out.1 hti (Touch.refl _ _) (fun k hk => by have := HG.out; omega), fun k hk => .inr (by rw [show k = g from (Option.some.inj hk).symm]; exact Nat.le_of_eq HG.out), fun q hq => HXQ.out q (by omega) hq⟩
theorem resize_grow {w : World} {B o g0 n cap0 : Nat} {proto : Int} {xs : Nat -> Vt} (hb : Box w o 63 (objC 1 proto false (.pointer none) (.slice (some ⟨g0, 0, none⟩) n cap0))) (he : ELg w B g0 n cap0 xs) (hB : B <= w.heap.size) (n' : Nat) (hn : n' <= 10000) (hc : cap0 < n') :
  Calls Tryz.prog 134 #[.pointer (some ⟨o, 0, none⟩), .int .i64 (n' : Int)] w fun e w' => e = .returned (.tuple #[]) /\ ElP w B o proto (.slice (some ⟨g0, 0, none⟩) n cap0) n xs n' w' := by
 obtain ⟨i0, hi, hz0, hz1, hz2⟩ := info_parts Tryz.infoZ
 obtain ⟨g, hg⟩ : ∃ g, w.heap.size = g := ⟨_, rfl⟩
 obtain ⟨cap, hcap⟩ : ∃ cap, n' + n' / 2 = cap := ⟨_, rfl⟩
 have hle := he.le
 have hsm := he.sm
 have hmk := run_make (P := Tryz.prog) w 30 28 i0 _ Tryz.underlying30 hi hz0 .i64 .i64 (n : Int) ((cap : Nat) : Int) (by omega) (by omega) (by rw [hz2]; omega) (by omega)
 rw [hz1, show (Value.agg zC).cells = zC from rfl, Int.toNat_natCast, Int.toNat_natCast] at hmk
 have bx := Box.new w 28 (madeCells zC (cap * 3))
 have hal : Below w.heap.size w (w.alloc (.cells (madeCells zC (cap * 3)) 28)) := (Below.refl _ _).alloc (Nat.le_refl _) _
 have hbo1 := hb.below hal
 have hol := hb.lt
 have he1 := he.on hal
 obtain ⟨cur, hcx, htx⟩ := he1.bx
 have hg0l := he.lt
 obtain ⟨W1, hW1⟩ : ∃ W1, w.alloc (.cells (madeCells zC (cap * 3)) 28) = W1 := ⟨_, rfl⟩
 rw [hW1] at hmk bx hal hbo1 he1 hcx
 rw [hg] at hmk bx
 have htk : TpX (cur.toList.take (n * 3)) n xs := by
  refine ⟨by rw [List.length_take]; have := htx.1; omega, fun i hi => ?_⟩
  obtain ⟨x0, x1, x2⟩ := htx.2 i (by omega)
  refine ⟨?_, ?_, ?_⟩
  ·rw [List.getElem?_take, if_pos (by omega)]; exact x0
  ·rw [List.getElem?_take, if_pos (by omega)]; exact x1
  ·rw [List.getElem?_take, if_pos (by omega)]; exact x2
 have hsrc : ∀ j v, (cur.toList.take (n * 3))[j]? = some v -> W1.cell? ((⟨g0, 0, none⟩ : Addr).add j) = some v := fun j v hj => by
  rw [List.getElem?_take] at hj
  split at hj
  ·have e : ((⟨g0, 0, none⟩ : Addr).add j) = ⟨g0, j, none⟩ := by
    unfold Addr.add; split
    ·simp [*]
    ·simp
   rw [e, hcx.at_ j]
   simpa using hj
  ·cases hj
 have hcp := fun ty => run_copy3 W1 ty g cap n cap0 ⟨g0, 0, none⟩ _ _ bx htk.1 hsrc (by rw [htk.1, size_madeCells]; omega) htk.one
 have bxC : Box (W1.setRow g ((madeCells zC (cap * 3)).toList.take (0 * 3) ++ cur.toList.take (n * 3) ++ (madeCells zC (cap * 3)).toList.drop (0 * 3 + (cur.toList.take (n * 3)).length)).toArray) g 28 _ := setRow_heap W1 g _ _ _ _ bx
 have hspl := (made_tp cap).splice htk (o := 0) (by omega)
 have tr := setRow_touch W1 g ((madeCells zC (cap * 3)).toList.take (0 * 3) ++ cur.toList.take (n * 3) ++ (madeCells zC (cap * 3)).toList.drop (0 * 3 + (cur.toList.take (n * 3)).length)).toArray
 obtain ⟨WC, hWC⟩ : ∃ WC, W1.setRow g ((madeCells zC (cap * 3)).toList.take (0 * 3) ++ cur.toList.take (n * 3) ++ (madeCells zC (cap * 3)).toList.drop (0 * 3 + (cur.toList.take (n * 3)).length)).toArray = WC := ⟨_, rfl⟩
 rw [hWC] at hcp bxC tr
 have hboC := hbo1.touch tr (by omega)
 have HEL : Veil (ELg WC B g n cap _) := ⟨⟨by omega, by omega, by omega, _, bxC, hspl⟩⟩
 have HTC : Veil (Touch (fun k => k = g) W1 WC) := ⟨tr⟩
 have HW1 := Veil.mk hW1
 clear hW1 hWC he he1 hcx htx htk hsrc bxC hspl tr
 have o4 : w.cell? ⟨o, 4, none⟩ = some (.slice (some ⟨g0, 0, none⟩) n cap0) := hb.at_ 4
 have o41 : W1.cell? ⟨o, 4, none⟩ = some (.slice (some ⟨g0, 0, none⟩) n cap0) := hbo1.at_ 4
 have o4C : WC.cell? ⟨o, 4, none⟩ = some (.slice (some ⟨g0, 0, none⟩) n cap0) := hboC.at_ 4
 have o4Cf := hboC.free 4
 have hgo : ¬ o = g := by omega
 have t4 := Touch.put (S := fun k => k = o) (w := WC) rfl 4 (.slice (some ⟨g, 0, none⟩) n cap)
 have hboD := hboC.put 4 (.slice (some ⟨g, 0, none⟩) n cap)
 have helD := HEL.out.touch t4 (fun e => hgo e.symm)
 have htD : Touch (fun k => k = o \/ (.slice (some ⟨g0, 0, none⟩) n cap0 : Value).ownBlock = some k) w (WC.setCell ⟨o, 4, none⟩ (.slice (some ⟨g, 0, none⟩) n cap)) := touch_fresh (Touch.of_below hal) HTC.out (t4.mono (S' := fun k => k = o \/ (.slice (some ⟨g0, 0, none⟩) n cap0 : Value).ownBlock = some k) (fun k hk => .inl hk)) (fun k hk => by omega)
 obtain ⟨WD, hWD⟩ : ∃ WD, WC.setCell ⟨o, 4, none⟩ (.slice (some ⟨g, 0, none⟩) n cap) = WD := ⟨_, rfl⟩
 rw [hWD] at hboD helD htD
 have o4D : WD.cell? ⟨o, 4, none⟩ = some (.slice (some ⟨g, 0, none⟩) n cap) := hboD.at_ 4
 have o4Df := hboD.free 4
 have tp := Touch.put (S := fun k => k = o) (w := WD) rfl 4 (.slice (some ⟨g, 0, none⟩) n' cap)
 have HR := Veil.mk (And.intro (hboD.put 4 (.slice (some ⟨g, 0, none⟩) n' cap)) (And.intro ((helD.touch tp (fun e => hgo e.symm)).resized n' (by omega)) (And.intro (htD.trans (tp.mono (S' := fun k => k = o \/ (.slice (some ⟨g0, 0, none⟩) n cap0 : Value).ownBlock = some k) (fun k hk => .inl hk))) hgo)))
 have HWD := Veil.mk hWD
 have hc' : (cap0 : Int) < (n' : Int) := by omega
 have hn0 : (0 : Int) <= (n' : Int) := by omega
 have hc2 : (n' : Int) <= (cap : Int) := by omega
 have hcq : (n' : Int) + (n' : Int) / 2 = (cap : Int) := by omega
 have hnn : ¬ (n' : Int) < (n : Int) := by omega
 have hnb : (n' : Int) <= 10000 := by omega
 have HG := Veil.mk hg
 clear hWD hboD helD htD tp t4 hboC hbo1 hal bx hb HEL HTC hcap hg hol
 go_enter Tryz.func134, Tryz.ntmps134
 go_upto_region 3 with (at_builtin; refine Lib.wpList_copy_run _ rfl _ _ _ _ rfl _ _ rfl rfl (hcp _) ?_)
 go_upto_region 4 with (fail)
 rw [HWD.out]
 clear o4 o41 o4C o4Cf hcp hmk
 go_upto_region 8 with (fail)
 obtain ⟨hbo, hel, htw, hfr⟩ := HR.out
 have HTW := Veil.mk (And.intro htw hfr)
 have HST0 := Veil.mk (And.intro hbo hel)
 have HB0 := Veil.mk (Touch.refl (fun k => k = g) (WD.setCell ⟨o, 4, none⟩ (.slice (some ⟨g, 0, none⟩) n' cap)))
 clear hbo hel htw hfr HR
 obtain ⟨WB, hWB⟩ : ∃ WB, WB = (WD.setCell ⟨o, 4, none⟩ (.slice (some ⟨g, 0, none⟩) n' cap)) := ⟨_, rfl⟩
 rw [<- hWB] at HTW HST0 HB0
 rw [<- hWB]
 clear hWB o4D o4Df
 go_wp2
 go_loopw [6] (fun i wr => ∃ (j : Nat) (xs' : Nat -> Vt), i = .int .i64 (j : Int) /\ Box wr o 63 (objC 1 proto false (.pointer none) (.slice (some ⟨g, 0, none⟩) n' cap)) /\ ELg wr B g n' cap xs' /\ Touch (fun k => k = g) WB wr /\ n <= j /\ ∀ q, q < j -> q < n' -> xs' q = rz n xs q) (fun i _ => n' - (intOf i).toNat)
 case atStart => exact ⟨n, _, rfl, HST0.out.1, HST0.out.2, HB0.out, Nat.le_refl _, fun q h1 h2 => Eq.trans (by first | rfl | exact if_neg (by omega) | exact if_pos ⟨by omega, by omega⟩) (if_pos h1).symm⟩
 case round =>
  clear HST0 HB0
  obtain ⟨j, xs', rfl, hbo, hel, hti, hnj, hxq⟩ := hrel
  have HXQ := Veil.mk hxq
  clear hxq
  have hj0 : (0 : Int) <= (j : Int) := by omega
  by_cases hlt : j < n'
  ·have hlt' : (j : Int) < (n' : Int) := by omega
   have hjc : j < cap := by have := hel.le; omega
   have o4 : wr.cell? ⟨o, 4, none⟩ = some (.slice (some ⟨g, 0, none⟩) n' cap) := hbo.at_ 4
   obtain ⟨c0, c1, c2⟩ := hel.cell j hjc
   have f0 := hel.free (j * 3)
   have f1 := hel.free (j * 3 + 1)
   have f2 := hel.free (j * 3 + 2)
   obtain ⟨s1, s2⟩ := hel.set j hjc (10, 0, ⟨#[]⟩)
   have hne : ¬ o = g := hbo.lab.ne hel.lab (by decide)
   have HN := Veil.mk (And.intro (hbo.touch s2 hne) (And.intro s1 (hti.trans s2)))
   have hnb : (n' : Int) <= 10000 := by omega
   clear hbo hel hti s1 s2
   go_wp2
   go_roundw
   case rel => exact ⟨j + 1, _, by go_num, HN.out.1, HN.out.2.1, HN.out.2.2, by omega, fun q h1 h2 => rz_next hnj HXQ.out q h1 h2⟩
   case measure => simp [intOf]; omega
  ·have hlt' : ¬ (j : Int) < (n' : Int) := by omega
   have HF := Veil.mk (And.intro hbo (And.intro hel hti))
   clear hbo hel hti
   go_wp2
   obtain ⟨hbo, hel, hti⟩ := HF.out
   exact bodyPost_end (results_none rfl _ _ _) rfl ⟨rfl, _, xs', hbo, .inr ⟨g, cap, rfl, hel⟩, touch_fresh HTW.out.1 hti (Touch.refl _ _) (fun k hk => by have := HG.out; omega), fun k hk => .inr (by rw [show k = g from (Option.some.inj hk).symm]; exact Nat.le_of_eq HG.out), fun q hq => HXQ.out q (by omega) hq⟩
theorem len11 {α : Type} {us : List α} (h : us.length = 11) : ∃ a0 a1 a2 a3 a4 a5 a6 a7 a8 a9 a10, us = [a0, a1, a2, a3, a4, a5, a6, a7, a8, a9, a10] := by
 match us, h with
 | [a0, a1, a2, a3, a4, a5, a6, a7, a8, a9, a10], _ => exact ⟨a0, a1, a2, a3, a4, a5, a6, a7, a8, a9, a10, rfl⟩
theorem resize_none {w : World} {B o : Nat} {proto : Int} (hb : Box w o 63 (objC 1 proto false (.pointer none) (.slice none 0 0))) (xs : Nat -> Vt) :
  Calls Tryz.prog 134 #[.pointer (some ⟨o, 0, none⟩), .int .i64 ((0 : Nat) : Int)] w fun e w' => e = .returned (.tuple #[]) /\ ElP w B o proto (.slice none 0 0) 0 xs 0 w' := by
 have o4 : w.cell? ⟨o, 4, none⟩ = some (.slice none 0 0) := hb.at_ 4
 have o4f := hb.free 4
 have tp := Touch.put (S := fun k => k = o) (w := w) rfl 4 (.slice none 0 0)
 have HR := Veil.mk (show ElP w B o proto (.slice none 0 0) 0 xs 0 (w.setCell ⟨o, 4, none⟩ (.slice none 0 0)) from ⟨.slice none 0 0, fun _ => zV, hb.put 4 (.slice none 0 0), EL.nil _ _ _, tp.mono (fun k hk => .inl hk), fun k hk => (by cases hk), fun q hq => absurd hq (by omega)⟩)
 rw [show ((0 : Nat) : Int) = 0 from rfl]
 clear hb tp
 go_enter Tryz.func134, Tryz.ntmps134
 go_wp2
 go_loopw [6] (fun i wr => i = .int .i64 0 /\ wr = w.setCell ⟨o, 4, none⟩ (.slice none 0 0)) (fun _ _ => 0)
 case atStart => exact ⟨rfl, rfl⟩
 case round =>
  obtain ⟨rfl, rfl⟩ := hrel
  go_wp2
  exact bodyPost_end (results_none rfl _ _ _) rfl ⟨rfl, HR.out⟩
theorem resize_any {w : World} {B o n : Nat} {proto : Int} {ev : Value} {xs : Nat -> Vt} (hb : Box w o 63 (objC 1 proto false (.pointer none) ev)) (he : EL w B ev n xs) (hB : B <= w.heap.size) (n' : Nat) (hn : n' <= 10000) :
  Calls Tryz.prog 134 #[.pointer (some ⟨o, 0, none⟩), .int .i64 (n' : Int)] w fun e w' => e = .returned (.tuple #[]) /\ ElP w B o proto ev n xs n' w' := by
 rcases he with ⟨rfl, rfl⟩ | ⟨g, cap, rfl, he⟩
 ·by_cases h0 : n' = 0
  ·subst h0
   exact resize_none hb xs
  ·exact resize_nil hb hB n' hn (by omega) xs
 ·by_cases h0 : n' <= cap
  ·exact resize_fit hb he n' hn h0
  ·exact resize_grow hb he hB n' hn (by omega)
theorem isLen_len {w : World} {o : Nat} {proto : Int} {cs : Bool} {pv ev : Value} (hb : Box w o 63 (objC 1 proto cs pv ev)) : Calls Tryz.prog 107 #[.pointer (some ⟨o, 0, none⟩), valV (7, 0, lenB)] w fun e w' => e = .returned (.bool true) /\ Below w.heap.size w w' := by
 have b1 : Below w.heap.size w (w.alloc (.cells #[.int .i64 7, .int .i64 0, .string lenB] 28)) := (Below.refl _ _).alloc (Nat.le_refl _) _
 have c0 : (w.alloc (.cells #[.int .i64 7, .int .i64 0, .string lenB] 28)).cell? ⟨o, 0, none⟩ = some (.int .i64 1) := (hb.below b1).at_ 0
 clear hb
 go_enter Tryz.func107, Tryz.ntmps107
 go_wp2
 go_ret
 exact ⟨rfl, b1⟩
theorem unless_open {w : World} {o : Nat} {cl proto : Int} {pv ev : Value} (hb : Box w o 63 (objC cl proto false pv ev)) (f : Int) : Calls Tryz.prog 108 #[.pointer (some ⟨o, 0, none⟩), .int .i64 f] w fun e w' => e = .returned (.int .i64 f) /\ w' = w := by
 have c2 : w.cell? ⟨o, 2, none⟩ = some (.bool false) := hb.at_ 2
 clear hb
 go_enter Tryz.func108, Tryz.ntmps108
 go_wp2
 go_ret
 exact ⟨rfl, rfl⟩
theorem plain_1 (w : World) : Calls Tryz.prog 120 #[.int .i64 1] w fun e w' => e = .returned (.bool true) /\ w' = w := by
 go_enter Tryz.func120, Tryz.ntmps120
 go_wp2
 go_ret
 exact ⟨rfl, rfl⟩
def OlSt (rb : Nat) (v : Vt) (WD : World) : Nat -> (Nat -> Value) -> World -> Prop
 | 0 => fun _ w => w = WD
 | _ => fun _ w => w = ((WD.setCell ⟨rb, 0, none⟩ (.int .i64 v.1)).setCell ⟨rb, 1, none⟩ (.int .i64 v.2.1)).setCell ⟨rb, 2, none⟩ (.string v.2.2)
theorem OlSt.zero {rb : Nat} {v : Vt} {WD w : World} {s : Nat} {f : Nat -> Value} (hs : s <= 0) (h : OlSt rb v WD s f w) : w = WD := by
 obtain rfl : s = 0 := by omega
 exact h
theorem own_len {w : World} {B o n : Nat} {proto : Int} {ev : Value} {xs : Nat -> Vt} (hb : Box w o 63 (objC 1 proto false (.pointer none) ev)) (he : EL w B ev n xs) :
  Calls Tryz.prog 71 #[.pointer (some ⟨o, 0, none⟩), valV (7, 0, lenB)] w fun e w' => e = .returned (.tuple #[.agg #[.int .i64 3, .int .i64 (n : Int), .string ⟨#[]⟩], .int .i64 1, .bool true]) /\ Below w.heap.size w w' := by
 have hlt := hb.lt
 have HIL : Veil (∀ W, Below w.heap.size w W -> Calls Tryz.prog 107 #[.pointer (some ⟨o, 0, none⟩), valV (7, 0, lenB)] W fun e w' => e = .returned (.bool true) /\ Below W.heap.size W w') := ⟨fun W hbw => isLen_len (hb.below hbw)⟩
 skip
 obtain ⟨kb, hkb⟩ : ∃ kb, w.heap.size = kb := ⟨_, rfl⟩
 obtain ⟨rb, hrb⟩ : ∃ rb, kb + 1 = rb := ⟨_, rfl⟩
 have b1 := (Box.new w 28 #[.int .i64 7, .int .i64 0, .string lenB]).more (.cells #[.int .i64 0, .int .i64 0, .string ⟨#[]⟩] 28)
 have b2 := Box.new (w.alloc (.cells #[.int .i64 7, .int .i64 0, .string lenB] 28)) 28 #[.int .i64 0, .int .i64 0, .string ⟨#[]⟩]
 have bb : Below w.heap.size w ((w.alloc (.cells #[.int .i64 7, .int .i64 0, .string lenB] 28)).alloc (.cells #[.int .i64 0, .int .i64 0, .string ⟨#[]⟩] 28)) := ((Below.refl _ _).alloc (Nat.le_refl _) _).alloc (by simp) _
 rw [World.size_alloc] at b2
 obtain ⟨W0, hW0⟩ : ∃ W0, ((w.alloc (.cells #[.int .i64 7, .int .i64 0, .string lenB] 28)).alloc (.cells #[.int .i64 0, .int .i64 0, .string ⟨#[]⟩] 28)) = W0 := ⟨_, rfl⟩
 rw [hW0] at b1 b2 bb
 have HW0 := Veil.mk (And.intro hW0 (And.intro hkb hrb))
 have HBO := Veil.mk (And.intro hb (And.intro bb he))
 rw [hkb] at b1 b2 ⊢
 rw [hrb] at b2
 have HB12 := Veil.mk (And.intro b1 b2)
 have x0 : W0.cell? ⟨kb, 0, none⟩ = some (.int .i64 7) := b1.at_ 0
 have x1 : W0.cell? ⟨kb, 1, none⟩ = some (.int .i64 0) := b1.at_ 1
 have x2 : W0.cell? ⟨kb, 2, none⟩ = some (.string lenB) := b1.at_ 2
 clear hb he b1 b2 bb hW0 hkb hrb hlt
 go_enter Tryz.func71, Tryz.ntmps71
 go_upto_region 1 with (fail)
 rw [HW0.out.1, HW0.out.2.1, HW0.out.2.2]
 go_upto_region 4 with (go_at_call 107; ((with_reducible refine (HIL.out _ HBO.out.2.1).mono ?_); rintro e w1 ⟨rfl, hb1⟩))
 have HBX : Veil (Below w.heap.size w w1) := ⟨blw2 HBO.out.2.1 hb1⟩
 have HKX := Veil.mk (HB12.out.2.on hb1 HB12.out.2.lt)
 obtain ⟨ao, cap, rfl⟩ : ∃ ao cap, ev = .slice ao n cap := by
  rcases HBO.out.2.2 with ⟨e1, e2⟩ | ⟨g, cap, e1, _⟩
  ·exact ⟨none, 0, by rw [e1, e2]⟩
  ·exact ⟨_, _, e1⟩
 clear x0 x1 x2 hb1 HB12 HIL
 obtain ⟨WD, hWD⟩ : ∃ WD, w1.drew = WD := ⟨_, rfl⟩
 have HBD : Veil (Below w.heap.size w WD) := ⟨by rw [<- hWD]; exact HBX.out.drew⟩
 have HOB : Veil (Box WD o 63 (objC 1 proto false (.pointer none) (.slice ao n cap))) := ⟨HBO.out.1.below HBD.out⟩
 have HRB : Veil (Box WD rb 28 #[.int .i64 0, .int .i64 0, .string ⟨#[]⟩]) := ⟨by rw [<- hWD]; exact HKX.out.drew⟩
 have HUN : Veil (∀ W, W = WD -> Calls Tryz.prog 108 #[.pointer (some ⟨o, 0, none⟩), .int .i64 1] W fun e w' => e = .returned (.int .i64 1) /\ w' = W) := ⟨fun W hw => by rw [hw]; exact unless_open HOB.out 1⟩
 have HWD := Veil.mk hWD
 have HRL : Veil (w.heap.size <= rb) := ⟨by have := HW0.out.2.1; have := HW0.out.2.2; omega⟩
 clear hWD HBX HKX
 refine wp_region_chain [qp o 0, qp o 0, qp o 4, qq (.slice ao n cap), qi (n : Int), qq (.agg #[.int .i64 3, .int .i64 (n : Int), .string ⟨#[]⟩]), qp o 0, qi 1, none, qi 1, qq (.bool true)] (LPh [8] (OlSt rb (3, (n : Int), ⟨#[]⟩) WD)) [some 14, some 15, some 16, some 17, some 18, some 19, some 20, some 21, none, some 5, some 6] (curV' _ [some 14, some 15, some 16, some 17, some 18, some 19, some 20, some 21, none, some 5, some 6]) (by kernel_rfl) rfl rfl (puts_cur _ _) (LPh.start (show w1.drew = WD from HWD.out)) ?_ (by kernel_rfl) ?_
 ·refine SY (fun _ S => ?_) ?_
  ·obtain ⟨⟩ := n11 S.hu
   rw [pin S.ha]
   go_simp
   exact S.kL 0
  refine SY (fun _ S => ?_) ?_
  ·obtain ⟨⟩ := n11 S.hu
   obtain rfl := S.q 0
   rw [pin S.ha]
   go_simp
   exact S.kL 1
  refine SY (fun _ S => ?_) ?_
  ·obtain ⟨⟩ := n11 S.hu
   obtain rfl := S.q 1
   rw [pin S.ha]
   go_simp
   exact S.kL 2
  refine SY (fun w' S => ?_) ?_
  ·obtain ⟨⟩ := n11 S.hu
   obtain rfl := S.q 2
   have h8 := S.hI.before 8 3 rfl (by kernel_rfl) S.h0
   have hst := S.hI.ph.at_ 0 8 rfl h8 (.inl rfl)
   clear h8
   have c0 : w'.cell? ⟨o, 4, none⟩ = some (.slice ao n cap) := by rw [show w' = WD from hst]; exact HOB.out.at_ 4
   rw [pin S.ha]
   go_simp
   exact S.kL 3
  refine SY (fun _ S => ?_) ?_
  ·obtain ⟨⟩ := n11 S.hu
   obtain rfl := S.q 3
   rw [pin S.ha]
   go_simp
   exact S.kL 4
  refine SY (fun _ S => ?_) ?_
  ·obtain ⟨⟩ := n11 S.hu
   obtain rfl := S.q 4
   rw [pin S.ha]
   go_simp
   exact S.kL 5
  refine SY (fun _ S => ?_) ?_
  ·obtain ⟨⟩ := n11 S.hu
   rw [pin S.ha]
   go_simp
   exact S.kL 6
  refine SC rfl (fun bb aa w' us hus ha hI hbs hb0 hbp K hK => ?_) ?_
  ·obtain ⟨u0, u1, u2, u3, u4, u5, u6, u7, u8, u9, u10, rfl⟩ := len11 hus
   have e6 : u6 = .pointer (some ⟨o, 0, none⟩) := hI.vl 6 rfl hbp; subst e6
   have h8 := hI.before 8 7 rfl (by kernel_rfl) hb0
   obtain ⟨sg, hsg, hstg⟩ := hI.ph.le 0 8 rfl h8
   have HUW : Veil (w' = WD) := ⟨OlSt.zero hsg hstg⟩
   have HI := Veil.mk hI
   clear hI h8
   rw [ha]
   simp only [puts, setAll, List.setIfInBounds_toArray, List.set_cons_zero, List.set_cons_succ]
   go_simp
   go_at_call 108
   refine (HUN.out w' HUW.out).mono ?_
   rintro e9 w9 ⟨rfl, h9⟩
   subst w9
   go_simp
   exact kL hK HI hus hbs 7 rfl rfl hbp rfl rfl
  refine SY (fun w' S => ?_) ?_
  ·obtain ⟨⟩ := n11 S.hu
   obtain rfl := S.q 5
   have hst := S.hI.ph.at_ 0 8 rfl S.h0 (.inl rfl)
   have hwd : w' = WD := hst
   have HST := Veil.mk hwd
   have hrb : Box w' rb 28 #[.int .i64 0, .int .i64 0, .string ⟨#[]⟩] := by rw [hwd]; exact HRB.out
   have c0 : w'.cell? ⟨rb, 0, none⟩ = some (.int .i64 0) := hrb.at_ 0
   have c1 : w'.cell? ⟨rb, 1, none⟩ = some (.int .i64 0) := hrb.at_ 1
   have c2 : w'.cell? ⟨rb, 2, none⟩ = some (.string ⟨#[]⟩) := hrb.at_ 2
   have f0 := hrb.free 0
   have f1 := hrb.free 1
   have f2 := hrb.free 2
   clear hst hwd hrb
   rw [pin S.ha]
   go_simp
   exact S.kN 8 undef (S.hI.ph.next 0 8 _ rfl S.h0 (.inl rfl) (by decide) (show _ = _ by rw [HST.out]))
  refine SY (fun _ S => ?_) ?_
  ·obtain ⟨⟩ := n11 S.hu
   obtain rfl := S.q 7
   rw [pin S.ha]
   go_simp
   exact S.kL 9
  refine SY (fun _ S => ?_) ?_
  ·obtain ⟨⟩ := n11 S.hu
   rw [pin S.ha]
   go_simp
   exact S.kL 10
  exact Steps.nil
 ·intro us w9 hus dd hD2 hJ
  obtain ⟨_, _, _, _, _, _, _, _, _, p9, p10⟩ := n11 hus
  have q1 := hJ.ph.all (fun c hc => hD2 c (by
   have : c = 8 := by simpa using hc
   show c < 11
   omega))
  replace q1 : w9 = ((WD.setCell ⟨rb, 0, none⟩ (.int .i64 (((3, (n : Int), ⟨#[]⟩) : Vt)).1)).setCell ⟨rb, 1, none⟩ (.int .i64 (((3, (n : Int), ⟨#[]⟩) : Vt)).2.1)).setCell ⟨rb, 2, none⟩ (.string (((3, (n : Int), ⟨#[]⟩) : Vt)).2.2) := q1
  have e9 : p9 = .int .i64 1 := hJ.val 9 _ rfl (hD2 9 (by show 9 < 11; decide))
  have e10 : p10 = .bool true := hJ.val 10 _ rfl (hD2 10 (by show 10 < 11; decide))
  subst e9 e10
  have hr3 := ((HRB.out.put 0 (.int .i64 (((3, (n : Int), ⟨#[]⟩) : Vt)).1)).put 1 (.int .i64 (((3, (n : Int), ⟨#[]⟩) : Vt)).2.1)).put 2 (.string (((3, (n : Int), ⟨#[]⟩) : Vt)).2.2)
  have hb9 : Below w.heap.size w (((WD.setCell ⟨rb, 0, none⟩ (.int .i64 (((3, (n : Int), ⟨#[]⟩) : Vt)).1)).setCell ⟨rb, 1, none⟩ (.int .i64 (((3, (n : Int), ⟨#[]⟩) : Vt)).2.1)).setCell ⟨rb, 2, none⟩ (.string (((3, (n : Int), ⟨#[]⟩) : Vt)).2.2)) := ((HBD.out.setCell (p := ⟨rb, 0, none⟩) HRL.out _).setCell (p := ⟨rb, 1, none⟩) HRL.out _).setCell (p := ⟨rb, 2, none⟩) HRL.out _
  rw [<- q1] at hr3 hb9
  have y0 : w9.cell? ⟨rb, 0, none⟩ = some (.int .i64 (((3, (n : Int), ⟨#[]⟩) : Vt)).1) := hr3.at_ 0
  have y1 : w9.cell? ⟨rb, 1, none⟩ = some (.int .i64 (((3, (n : Int), ⟨#[]⟩) : Vt)).2.1) := hr3.at_ 1
  have y2 : w9.cell? ⟨rb, 2, none⟩ = some (.string (((3, (n : Int), ⟨#[]⟩) : Vt)).2.2) := hr3.at_ 2
  have HZ := Veil.mk hb9
  clear hJ hD2 q1 hr3 hb9
  simp only [puts, setAll, List.set_cons_zero, List.set_cons_succ, List.setIfInBounds_toArray]
  go_wp2
  have hfin : Below kb w w9 := by rw [<- HW0.out.2.1]; exact HZ.out
  exact bodyPost_ret (v := .tuple #[valV (3, (n : Int), ⟨#[]⟩), .int .i64 1, .bool true]) (by simp [results, Tryz.results71, go_sem, y0, y1, y2]) rfl ⟨rfl, hfin⟩
def ElQ (w : World) (B o : Nat) (proto : Int) (ev : Value) (n : Nat) (xs : Nat -> Vt) (n' i : Nat) (v : Vt) (w' : World) : Prop := ∃ ev' xs', Box w' o 63 (objC 1 proto false (.pointer none) ev') /\ EL w' B ev' n' xs' /\ (∀ j, j < n' -> xs' j = if j = i then v else rz n xs j) /\ Touch (fun k => k = o \/ ev.ownBlock = some k) w w' /\ ∀ k, ev'.ownBlock = some k -> ev.ownBlock = some k \/ w.heap.size <= k
theorem elq_at {j i : Nat} {a b v : Vt} (h : a = b) : (if j = i then v else a) = if j = i then v else b := by rw [h]
def SeSt (g i : Nat) (v : Vt) (WD : World) : Nat -> (Nat -> Value) -> World -> Prop
 | 0 => fun _ w => w = WD
 | _ => fun _ w => w = ((WD.setCell ⟨g, i * 3, none⟩ (.int .i64 v.1)).setCell ⟨g, i * 3 + 1, none⟩ (.int .i64 v.2.1)).setCell ⟨g, i * 3 + 2, none⟩ (.string v.2.2)
theorem EL.own_lt {w : World} {B n : Nat} {ev : Value} {xs : Nat -> Vt} (h : EL w B ev n xs) (k : Nat) (hk : ev.ownBlock = some k) : B <= k /\ k < w.heap.size /\ Lab w k 28 := by
 rcases h with ⟨rfl, _⟩ | ⟨g, cap, rfl, h⟩
 ·cases hk
 ·cases hk; exact ⟨h.lo, h.lt, h.lab⟩
theorem EL.on {w w' : World} {B n : Nat} {ev : Value} {xs : Nat -> Vt} (h : EL w B ev n xs) (hb : Below w.heap.size w w') : EL w' B ev n xs := h.imp id (fun ⟨g, cap, e, h⟩ => ⟨g, cap, e, h.on hb⟩)
theorem EL.evs {w : World} {B n : Nat} {ev : Value} {xs : Nat -> Vt} (h : EL w B ev n xs) : ∃ ao cap, ev = .slice ao n cap := by
 rcases h with ⟨e1, e2⟩ | ⟨g, cap, e1, _⟩
 ·exact ⟨none, 0, by rw [e1, e2]⟩
 ·exact ⟨_, _, e1⟩
theorem setLen_ok {w : World} {B o n : Nat} {proto : Int} {ev : Value} {xs : Nat -> Vt} (hb : Box w o 63 (objC 1 proto false (.pointer none) ev)) (he : EL w B ev n xs) (hB : B <= w.heap.size) (n' : Nat) (hn : n' <= 10000) :
  Calls Tryz.prog 111 #[.pointer (some ⟨o, 0, none⟩), valV (3, (n' : Int), ⟨#[]⟩), .int .i64 1] w fun e w' => e = .returned (.bool true) /\ ElP w B o proto ev n xs n' w' := by
 have hal : Below w.heap.size w (w.alloc (.cells #[.int .i64 3, .int .i64 (n' : Int), .string ⟨#[]⟩] 28)) := (Below.refl _ _).alloc (Nat.le_refl _) _
 have HRS := Veil.mk (resize_any (hb.below hal) (he.on hal) (Nat.le_trans hB hal.size) n' hn)
 have HAL := Veil.mk hal
 have hn0 : (0 : Int) <= (n' : Int) := by omega
 have hn1 : ¬ (10000 : Int) < (n' : Int) := by omega
 clear hb he hal
 go_enter Tryz.func111, Tryz.ntmps111
 go_wp2_with (go_at_call 134; ((with_reducible refine HRS.out.mono ?_); rintro e w2 ⟨rfl, hp⟩))
 go_ret
 obtain ⟨ev', xs', h1, h2, h3, h4, h5⟩ := hp
 refine ⟨rfl, ev', xs', h1, h2, (Touch.of_below HAL.out).trans h3, fun k hk => (h4 k hk).imp id (fun h => ?_), h5⟩
 have := HAL.out.size
 omega
theorem setEl_grow {w : World} {B o n : Nat} {proto : Int} {ev : Value} {xs : Nat -> Vt} (hb : Box w o 63 (objC 1 proto false (.pointer none) ev)) (he : EL w B ev n xs) (hB : B <= w.heap.size) (i : Nat) (hi : i < 10000) (hin : n <= i) (v : Vt) :
  Calls Tryz.prog 112 #[.pointer (some ⟨o, 0, none⟩), .int .i64 (i : Int), valV v, .int .i64 7] w fun e w' => e = .returned (.bool true) /\ ElQ w B o proto ev n xs (i + 1) i v w' := by
 obtain ⟨vb, hvb⟩ : ∃ vb, w.heap.size = vb := ⟨_, rfl⟩
 have bv := Box.new w 28 #[.int .i64 v.1, .int .i64 v.2.1, .string v.2.2]
 have hal : Below w.heap.size w (w.alloc (.cells #[.int .i64 v.1, .int .i64 v.2.1, .string v.2.2] 28)) := (Below.refl _ _).alloc (Nat.le_refl _) _
 obtain ⟨W0, hW0⟩ : ∃ W0, w.alloc (.cells #[.int .i64 v.1, .int .i64 v.2.1, .string v.2.2] 28) = W0 := ⟨_, rfl⟩
 rw [hW0] at bv hal
 have hb0 := hb.below hal
 have he0 := he.on hal
 have hB0 := Nat.le_trans hB hal.size
 rw [hvb] at bv
 have HW0 := Veil.mk (And.intro hW0 hvb)
 obtain ⟨ao, cap0, hev⟩ := he.evs
 have o4 : W0.cell? ⟨o, 4, none⟩ = some (.slice ao n cap0) := by rw [<- hev]; exact hb0.at_ 4
 have hin' : (n : Int) <= (i : Int) := by omega
 have HRS : Veil (Calls Tryz.prog 134 #[.pointer (some ⟨o, 0, none⟩), .int .i64 ((i : Int) + 1)] W0 fun e w' => e = .returned (.tuple #[]) /\ ElP W0 B o proto ev n xs (i + 1) w') := ⟨by have := resize_any hb0 he0 hB0 (i + 1) (by omega); rwa [show ((i + 1 : Nat) : Int) = (i : Int) + 1 by omega] at this⟩
 have HOV := Veil.mk (And.intro he (And.intro hal (And.intro bv hb.lt)))
 have hi9 : (i : Int) < 10000 := by omega
 clear hb he bv hal hb0 he0 hB0 hW0 hvb hev
 go_enter Tryz.func112, Tryz.ntmps112
 go_upto_region 1 with (fail)
 rw [HW0.out.1, HW0.out.2]
 go_upto_region 5 with (go_at_call 134; ((with_reducible refine HRS.out.mono ?_); rintro e W1 ⟨rfl, hp⟩))
 clear o4
 obtain ⟨ev', xs1, h1, h2, h3, h4, h5⟩ := hp
 have HX5 := Veil.mk h5
 clear h5
 obtain ⟨hev, hal, hbv, hol⟩ := HOV.out
 obtain ⟨g, cap, rfl, h2g⟩ : ∃ g cap, ev' = .slice (some ⟨g, 0, none⟩) (i + 1) cap /\ ELg W1 B g (i + 1) cap xs1 := by
  rcases h2 with ⟨_, e2⟩ | ⟨g, cap, e1, he⟩
  ·omega
  ·exact ⟨g, cap, e1, he⟩
 obtain ⟨n1, hn1⟩ : ∃ n1, n1 = i + 1 := ⟨_, rfl⟩
 rw [<- hn1] at h1 h2g h4
 have hvb1 : Box W1 vb 28 #[.int .i64 v.1, .int .i64 v.2.1, .string v.2.2] := hbv.touch h3 (fun e => by
  have hvs := HW0.out.2
  rcases e with e | e
  ·omega
  ·have := (hev.own_lt vb e).2.1
   omega)
 have HX := Veil.mk (And.intro h1 (And.intro h2g (And.intro (show i < n1 by omega) (And.intro hvb1 (And.intro ((Touch.of_below hal).trans h3) (show ∀ k, (Value.slice (some ⟨g, 0, none⟩) n1 cap).ownBlock = some k -> ev.ownBlock = some k \/ w.heap.size <= k from fun k hk => (h4 k hk).imp id (fun h => by have := hal.size; omega)))))))
 have HN1 := Veil.mk hn1
 clear h1 h2 h2g h3 h4 hvb1 hev hal hbv hol hn1
 obtain ⟨hboX, helX, hin1, hvbX, htX, hfX⟩ := HX.out
 obtain ⟨WD, hWD⟩ : ∃ WD, W1.drew = WD := ⟨_, rfl⟩
 have HOB : Veil (Box WD o 63 (objC 1 proto false (.pointer none) (.slice (some ⟨g, 0, none⟩) n1 cap))) := ⟨by rw [<- hWD]; exact hboX.drew⟩
 have HEL : Veil (ELg WD B g n1 cap xs1) := ⟨by rw [<- hWD]; exact helX.on (Below.refl _ _).drew⟩
 have HVB : Veil (Box WD vb 28 #[.int .i64 v.1, .int .i64 v.2.1, .string v.2.2]) := ⟨by rw [<- hWD]; exact hvbX.drew⟩
 have HTC : Veil (Touch (fun k => k = o \/ ev.ownBlock = some k) w WD) := ⟨by rw [<- hWD]; exact htX.trans (Touch.of_below (Below.refl _ _).drew)⟩
 have HIC : Veil (i < cap) := ⟨by have := helX.le; omega⟩
 have HFX := Veil.mk hfX
 have HWD := Veil.mk hWD
 have hi00 : (0 : Int) <= (i : Int) := by omega
 have hin2 : (i : Int) < (n1 : Int) := by omega
 clear hWD HX hboX helX hvbX htX hfX
 refine wp_region_chain [qp o 0, qp o 0, qp o 4, qq (.slice (some ⟨g, 0, none⟩) n1 cap), qi (i : Int), qv v, qp g (i * 3), none] (LPh [7] (SeSt g i v WD)) [some 22, some 23, some 24, some 25, some 26, some 27, some 28, none] (curV' _ [some 22, some 23, some 24, some 25, some 26, some 27, some 28, none]) (by kernel_rfl) rfl rfl (puts_cur _ _) (LPh.start (show W1.drew = WD from HWD.out)) ?_ (by kernel_rfl) ?_
 ·refine SY (fun _ S => ?_) ?_
  ·obtain ⟨⟩ := n8 S.hu
   rw [pin S.ha]
   go_simp
   exact S.kL 0
  refine SY (fun _ S => ?_) ?_
  ·obtain ⟨⟩ := n8 S.hu
   obtain rfl := S.q 0
   rw [pin S.ha]
   go_simp
   exact S.kL 1
  refine SY (fun _ S => ?_) ?_
  ·obtain ⟨⟩ := n8 S.hu
   obtain rfl := S.q 1
   rw [pin S.ha]
   go_simp
   exact S.kL 2
  refine SY (fun w' S => ?_) ?_
  ·obtain ⟨⟩ := n8 S.hu
   obtain rfl := S.q 2
   have h7 := S.hI.before 7 3 rfl (by kernel_rfl) S.h0
   have hst := S.hI.ph.at_ 0 7 rfl h7 (.inl rfl)
   clear h7
   have c0 : w'.cell? ⟨o, 4, none⟩ = some (.slice (some ⟨g, 0, none⟩) n1 cap) := by rw [show w' = WD from hst]; exact HOB.out.at_ 4
   rw [pin S.ha]
   go_simp
   exact S.kL 3
  refine SY (fun _ S => ?_) ?_
  ·obtain ⟨⟩ := n8 S.hu
   rw [pin S.ha]
   go_simp
   exact S.kL 4
  refine SY (fun w' S => ?_) ?_
  ·obtain ⟨⟩ := n8 S.hu
   have h7 := S.hI.before 7 5 rfl (by kernel_rfl) S.h0
   have hst := S.hI.ph.at_ 0 7 rfl h7 (.inl rfl)
   clear h7
   have HKW : Box w' vb 28 #[.int .i64 v.1, .int .i64 v.2.1, .string v.2.2] := by rw [show w' = WD from hst]; exact HVB.out
   have c0 : w'.cell? ⟨vb, 0, none⟩ = some (.int .i64 v.1) := HKW.at_ 0
   have c1 : w'.cell? ⟨vb, 1, none⟩ = some (.int .i64 v.2.1) := HKW.at_ 1
   have c2 : w'.cell? ⟨vb, 2, none⟩ = some (.string v.2.2) := HKW.at_ 2
   clear HKW
   rw [pin S.ha]
   go_simp
   exact S.kL 5
  refine SY (fun _ S => ?_) ?_
  ·obtain ⟨⟩ := n8 S.hu
   obtain rfl := S.q 3
   obtain rfl := S.q 4
   rw [pin S.ha]
   go_simp
   exact S.kL 6
  refine SY (fun w' S => ?_) ?_
  ·obtain ⟨⟩ := n8 S.hu
   obtain rfl := S.q 6
   obtain rfl := S.q 5
   have hst := S.hI.ph.at_ 0 7 rfl S.h0 (.inl rfl)
   have hwd : w' = WD := hst
   have HST := Veil.mk hwd
   obtain ⟨c0, c1, c2⟩ := HEL.out.cell i HIC.out
   have f0 := HEL.out.free (i * 3)
   have f1 := HEL.out.free (i * 3 + 1)
   have f2 := HEL.out.free (i * 3 + 2)
   rw [<- hwd] at c0 c1 c2 f0 f1 f2
   clear hst hwd
   rw [pin S.ha]
   go_simp
   exact S.kN 7 undef (S.hI.ph.next 0 7 _ rfl S.h0 (.inl rfl) (by decide) (show _ = _ by rw [HST.out]))
  exact Steps.nil
 ·intro us w9 hus dd hD2 hJ
  obtain ⟨⟩ := n8 hus
  have q1 := hJ.ph.all (fun c hc => hD2 c (by
   have : c = 7 := by simpa using hc
   show c < 8
   omega))
  replace q1 : w9 = ((WD.setCell ⟨g, i * 3, none⟩ (.int .i64 v.1)).setCell ⟨g, i * 3 + 1, none⟩ (.int .i64 v.2.1)).setCell ⟨g, i * 3 + 2, none⟩ (.string v.2.2) := q1
  obtain ⟨s1, s2⟩ := HEL.out.set i HIC.out v
  rw [<- q1] at s1 s2
  have hne : ¬ o = g := HOB.out.lab.ne HEL.out.lab (by decide)
  have hfin : ElQ w B o proto ev n xs n1 i v w9 := ⟨_, _, HOB.out.touch s2 hne, .inr ⟨g, cap, rfl, s1⟩, fun j hj => elq_at (HX5.out j (by have := HN1.out; omega)), touch_new HTC.out s2 (fun b hb => by rw [hb]; exact (HFX.out g rfl).imp .inr id), HFX.out⟩
  have HZ := Veil.mk hfin
  clear hJ hD2 q1 s1 s2 hfin
  simp only [puts, setAll, List.set_cons_zero, List.set_cons_succ, List.setIfInBounds_toArray]
  go_wp2
  go_ret
  have hz := HZ.out
  rw [HN1.out] at hz
  exact ⟨rfl, hz⟩
abbrev lx (l : List Vt) : Nat -> Vt := fun i => l.getD i (0, 0, ⟨#[]⟩)
def RowE (W : World) (B : Nat) (ev : Value) (l : List Vt) : Prop := RowV W ev l /\ EL W B ev l.length (lx l)
theorem ELg.kp {ts : List TypeId} {W W' : World} {B g n cap : Nat} {xs : Nat -> Vt} (h : ELg W B g n cap xs) (hk : Kp ts W W') (ht : ts.contains 28 = false) : ELg W' B g n cap xs := by
 obtain ⟨l, hb, hx⟩ := h.bx
 exact ⟨h.lo, h.le, h.sm, l, hk.box hb ht, hx⟩
theorem EL.kp {ts : List TypeId} {W W' : World} {B n : Nat} {ev : Value} {xs : Nat -> Vt} (h : EL W B ev n xs) (hk : Kp ts W W') (ht : ts.contains 28 = false) : EL W' B ev n xs := h.imp (fun h => h) (fun ⟨g, cap, e, h9⟩ => ⟨g, cap, e, h9.kp hk ht⟩)
theorem EL.mono {W : World} {B B' n : Nat} {ev : Value} {xs : Nat -> Vt} (h : EL W B ev n xs) (hB : B' <= B) : EL W B' ev n xs := h.imp (fun h => h) (fun ⟨g, cap, e, h9⟩ => ⟨g, cap, e, ⟨Nat.le_trans hB h9.lo, h9.le, h9.sm, h9.bx⟩⟩)
theorem EL.put {W : World} {B n : Nat} {ev : Value} {xs : Nat -> Vt} (h : EL W B ev n xs) (g i : Nat) (u : Value) (hg : ∀ ad n cap, ev = .slice (some ad) n cap -> ad.block ≠ g) : EL (W.setCell ⟨g, i, none⟩ u) B ev n xs := h.imp (fun h => h) (fun ⟨g2, cap, e, h9⟩ => ⟨g2, cap, e, h9.touch (S := fun k => k = g) (Touch.put (S := fun k => k = g) rfl _ _) (hg _ _ _ e)⟩)
theorem RowE.on {W W' : World} {B : Nat} {ev : Value} {l : List Vt} (h : RowE W B ev l) (hb : Below W.heap.size W W') : RowE W' B ev l := ⟨h.1.on hb, h.2.on hb⟩
theorem RowE.kp {ts : List TypeId} {W W' : World} {B : Nat} {ev : Value} {l : List Vt} (h : RowE W B ev l) (hk : Kp ts W W') (ht : ts.contains 28 = false) : RowE W' B ev l := ⟨h.1.kp hk ht, h.2.kp hk ht⟩
theorem RowE.mono {W : World} {B B' : Nat} {ev : Value} {l : List Vt} (h : RowE W B ev l) (hB : B' <= B) : RowE W B' ev l := ⟨h.1, h.2.mono hB⟩
theorem RowE.put {W : World} {B : Nat} {ev : Value} {l : List Vt} (h : RowE W B ev l) (g i : Nat) (u : Value) (hg : ∀ ad n cap, ev = .slice (some ad) n cap -> ad.block ≠ g) : RowE (W.setCell ⟨g, i, none⟩ u) B ev l := ⟨h.1.put g i u hg, h.2.put g i u hg⟩
section
variable {P : Program}
theorem wpList_clone {ops : Array Oper} {rest : List Oper} {o : Oper} {a : Act} {Q : Exit -> Act -> World -> Prop} {w : World} (hgd : o.guard = none) (s x : Operand) (t : TypeId)
  (ho : o.op = .call { callee := .builtin .append, args := #[s, x], argTypes := #[t, t] })
  (e : TypeId) (i : TypeInfo) (z : Value) (size bytes : Nat) (ht : P.underlying t = some (.slice e)) (hi : P.info? e = some i) (hz : i.zero = some z)
  (hsize : i.size = size) (hby : i.bytes = bytes) (hzs : z.cells.size = size) (_hsz : 0 < size)
  (g0 : Nat) (hs : a.eval s = .slice (some ⟨g0, 0, none⟩) 0 0) (hg0 : w.heap[g0]? = some (.cells #[] e (0, 0)))
  (ad : Addr) (m c : Nat) (news : List Value) (hx : a.eval x = .slice (some ad) m c) (hl : news.length = m * size) (hnews : ∀ j u, news[j]? = some u -> w.cell? (ad.add j) = some u) (h1 : ∀ u ∈ news, u.oneCell' = true)
  (h63 : m <= 1000000) (hbytes : m * bytes <= 140737488355328)
  (h : ∀ g cap w', w'.heap[g]? = some (.cells (news.toArray ++ Builtin.zeroCells z.cells (cap - m)) e (0, 0)) -> m <= cap /\ cap <= maxLen -> (g = g0 \/ g = w.heap.size) -> w.grownBy w' (some g0) -> wpList P ops Q rest (a.put o.dst (.slice (some ⟨g, 0, none⟩) m cap)) w') :
  wpList P ops Q (o :: rest) a w := by
 subst hsize
 subst hby
 refine wpList_plain hgd fun K hK => ?_
 by_cases hm : m = 0
 ·subst hm
  have hn : news = [] := List.eq_nil_of_length_eq_zero (by simpa using hl)
  subst hn
  have hr := run_append_room (P := P) w t o.type e i ht hi g0 0 0 #[] hg0 ad 0 c [] (by simp) hnews h1 (by omega) (by simp)
  unfold Oper.wp execOp
  simp only [ho, resolve, invoke, builtin, Sem.run_bind, Sem.run_pure, Result.andThen_ok, List.map_toArray, List.map_cons, List.map_nil, hs, hx, hr]
  refine hK _ _ (h g0 0 _ ?_ ⟨Nat.le_refl _, Nat.zero_le _⟩ (.inl rfl) ⟨rfl, rfl, rfl, by simp, fun k _ hk => setRow_other w g0 k _ (fun e => hk (by rw [e]))⟩)
  have := setRow_heap w g0 #[] (#[] : Array Value).toList.toArray e (0, 0) hg0
  have ez : Builtin.zeroCells z.cells (0 - 0) = #[] := Array.eq_empty_of_size_eq_zero (by rw [size_zeroCells]; simp)
  rw [ez]
  simpa using this
 ·have hr := run_append_grow (P := P) w t o.type e i z ht hi hz ⟨g0, 0, none⟩ 0 0 [] (by simp) (fun j v hj => by simp at hj) ad m c news hl hnews (by omega) (by omega) (growslice_fits (by omega) (by simpa using hbytes))
  have hge := grownCap_ge w (0 + m) 0 e
  have hcm : grownCap w (0 + m) 0 e <= maxLen := grownCap_le_maxLen w (0 + m) 0 e (by unfold maxLen; omega)
  unfold Oper.wp execOp
  simp only [ho, resolve, invoke, builtin, Sem.run_bind, Sem.run_pure, Result.andThen_ok, List.map_toArray, List.map_cons, List.map_nil, hs, hx, hr]
  simp only [Nat.zero_add] at hge hcm ⊢
  refine hK _ _ (h w.heap.size _ _ ?_ ⟨hge, hcm⟩ (.inr rfl) ⟨rfl, rfl, rfl, by simp, fun k hk _ => heap_alloc_old w.drew _ hk⟩)
  have := heap_alloc_new w.drew (.cells ((#[] : Array Value) ++ news.toArray ++ Builtin.zeroCells z.cells (grownCap w m 0 e - m)) e)
  simpa using this
end
theorem clone_tp (l : List Vt) (cap : Nat) (hc : l.length <= cap) : TpX ((flatV l).toArray ++ Builtin.zeroCells #[.int .i64 0, .int .i64 0, .string ⟨#[]⟩] (cap - l.length)).toList cap (lx l) := by
 have hz := zero_tp (cap - l.length)
 refine ⟨?_, fun i hi => ?_⟩
 ·rw [Array.toList_append, List.length_append, hz.1]
  have := flatV_len l
  simp only [this]
  omega
 ·rw [Array.toList_append]
  have hfl := flatV_len l
  rcases Nat.lt_or_ge i l.length with h9 | h9
  ·have hg : l[i]? = some (lx l i) := by rw [List.getElem?_eq_getElem h9]; simp [lx, List.getD, h9]
   obtain ⟨q0, q1, q2⟩ := flatV_at l i _ hg
   refine ⟨?_, ?_, ?_⟩
   ·rw [List.getElem?_append_left (by simp only [hfl]; omega)]; exact q0
   ·rw [List.getElem?_append_left (by simp only [hfl]; omega)]; exact q1
   ·rw [List.getElem?_append_left (by simp only [hfl]; omega)]; exact q2
  ·obtain ⟨q0, q1, q2⟩ := hz.2 (i - l.length) (by omega)
   have hx : lx l i = zV := by simp [lx, List.getD, List.getElem?_eq_none h9]
   rw [hx]
   refine ⟨?_, ?_, ?_⟩
   ·rw [List.getElem?_append_right (by simp only [hfl]; omega), hfl, show i * 3 - l.length * 3 = (i - l.length) * 3 by omega]; exact q0
   ·rw [List.getElem?_append_right (by simp only [hfl]; omega), hfl, show i * 3 + 1 - l.length * 3 = (i - l.length) * 3 + 1 by omega]; exact q1
   ·rw [List.getElem?_append_right (by simp only [hfl]; omega), hfl, show i * 3 + 2 - l.length * 3 = (i - l.length) * 3 + 2 by omega]; exact q2
theorem clone_e (sv : Value) (l : List Vt) (hl : l.length <= 1000000) (w : World) (h : RowV w sv l) : Calls Tryz.prog 38 #[sv] w fun e w' => ∃ v, e = .returned v /\ Below w.heap.size w w' /\ RowE w' w.heap.size v l /\ ∀ ad n cap, v = .slice (some ad) n cap -> w.heap.size <= ad.block := by
 have q : ∀ (w : World) (a : Option Addr) (n c n' c' : Nat), (binOp .eql 30 (.slice a n c) (.slice none n' c')).run Tryz.prog w = .ok (.bool a.isNone) w := fun w a n c n' c' => Lib.run_eql_slice_nil w _ _ a n c n' c' Tryz.underlying30
 obtain ⟨ao, cap, rfl, hlc, hno, hso⟩ := h
 cases ao with
 | none =>
  obtain ⟨rfl, rfl⟩ := hno rfl
  clear hlc hno hso
  go_enter Tryz.func38, Tryz.ntmps38
  go_wp2
  go_ret
  exact ⟨_, rfl, Below.refl _ _, ⟨RowV.nil _, .inl ⟨rfl, rfl⟩⟩, fun ad n cap h => (by cases h)⟩
 | some ad =>
  obtain ⟨g, rfl, hlb, hc⟩ := hso _ rfl
  have hlt := lab_lt hlb
  obtain ⟨i0, hi, hz0, hz1, hz2⟩ := info_parts Tryz.infoW
  obtain ⟨n, hn⟩ : ∃ n, l.length = n := ⟨_, rfl⟩
  have hro : (w.alloc (.cells #[] 28)).ownsRow w.heap.size 28 3 (.slice (some ⟨w.heap.size, 0, none⟩) 0 0) 0 [] := ⟨rfl, .inr ⟨w.heap.size, 0, #[], rfl, Nat.le_refl _, Box.new w 28 #[], Nat.le_refl _, Nat.zero_le _, rfl, rfl⟩⟩
  have hlen := flatV_len l
  have hsrc : ∀ (j : Nat) (u : Value), (flatV l)[j]? = some u -> (w.alloc (.cells #[] 28)).cell? ((⟨g, 0, none⟩ : Addr).add j) = some u := fun j u hj => by
   rw [cell_of_row2, ((Below.refl w.heap.size w).alloc (Nat.le_refl _) _).cell (p := ⟨g, j, none⟩) hlt]
   exact hc j u hj
  have hone := flatV_one l
  obtain ⟨fl, hfl⟩ : ∃ fl, flatV l = fl := ⟨_, rfl⟩
  have HFL := Veil.mk (And.intro hfl hn)
  rw [hfl] at hlen hsrc hone
  rw [hn] at hlen hl hlc ⊢
  have hs0 : w.heap.size <= (w.alloc (.cells #[] 28)).heap.size := by rw [World.size_alloc]; omega
  have hb0 : Below w.heap.size w (w.alloc (.cells #[] 28)) := (Below.refl _ _).alloc (Nat.le_refl _) _
  have HH := Veil.mk (And.intro hs0 hb0)
  have HL := Veil.mk hlen
  clear hb0 hc hno hso hfl hn hlb hlc
  go_enter Tryz.func38, Tryz.ntmps38
  go_upto_region 3 with (fail)
  go_wp2_with (at_builtin; go_loud (refine wpList_clone rfl _ _ 30 rfl 28 i0 (.agg #[.int .i64 0, .int .i64 0, .string ⟨#[]⟩]) 3 32 Tryz.underlying30 hi hz0 hz1 hz2 rfl (by decide) w.heap.size rfl (Box.new w 28 #[]) ⟨g, 0, none⟩ n cap fl rfl HL.out hsrc hone (by omega) (by omega) ?_); intro g5 c5 w5 hbx5 hc5 hg5 hgrow2; refine Hid.out ?_)
  have ht2 : Touch (fun b => b = w.heap.size) (w.alloc (.cells #[] 28)) w5 := Touch.of_grown hgrow2 (fun b hb => by
   have hb : (Value.slice (some ⟨w.heap.size, 0, none⟩) 0 0).ownBlock = some b := hb
   injection hb with hb
   exact hb.symm)
  have hge : w.heap.size <= g5 := hg5.elim (fun e => by omega) (fun e => by have := HH.out.1; omega)
  have HF := Veil.mk (And.intro (HH.out.2.trans (ht2.below HH.out.1 (fun k hk => by omega))) (And.intro hbx5 (And.intro hc5 hge)))
  clear ht2 hgrow2 hg5 hbx5 hro hsrc hs0 hone hge hc5
  refine Lib.hid ?_
  go_wp2
  go_ret
  obtain ⟨h1, h2, h3, h4⟩ := HF.out
  obtain ⟨e1, e2⟩ := HFL.out
  subst e1 e2
  have hel : ELg w5 w.heap.size g5 l.length c5 (lx l) := ⟨h4, h3.1, h3.2, _, (by rw [Array.toArray_toList]; exact h2), clone_tp l c5 h3.1⟩
  refine ⟨.slice (some ⟨g5, 0, none⟩) l.length c5, rfl, h1, ⟨⟨some ⟨g5, 0, none⟩, c5, rfl, h3.1, fun e => (by cases e), fun ad had => ?_⟩, .inr ⟨g5, c5, rfl, hel⟩⟩, fun ad n2 cap h => ?_⟩
  ·cases had
   refine ⟨g5, rfl, hel.lab, fun j u hj => ?_⟩
   have hlj := (List.getElem?_eq_some_iff.1 hj).1
   rw [(show Box w5 g5 28 _ from h2).at_ j]
   simp only [Array.getElem?_append, List.size_toArray, hlj, if_true, List.getElem?_toArray]
   exact hj
  ·injection h with h
   injection h with h
   subst h
   exact h4
section
variable {W W' : World} {h A m : Nat} {f : MF} {os : List OS} {ts : List TO}
theorem MM.arrayE (H : MM W h A m f os) (sv : Value) (l : List Vt) (hr : RowV W sv l) (hl : l.length <= 10000) (hn : os.length < 1000000) : Calls Tryz.prog 11 #[.pointer (some ⟨m, 0, none⟩), sv] W fun e w' => e = .returned (valV (9, (os.length : Int) + 1, ⟨#[]⟩)) /\ ∃ b ev, W.heap.size <= b /\ MM w' h A m f (os ++ [(b, objC 1 (f 2) false (.pointer none) ev)]) /\ RowE w' A ev l /\ Below A W w' /\ Kp arT W w' /\ Kq A W w' /\ ∀ ad n cap, ev = .slice (some ad) n cap -> W.heap.size < ad.block := by
 obtain ⟨ao, ca, rfl, hr2⟩ := hr
 have HRW : Veil (RowV W (.slice ao l.length ca) l) := ⟨ao, ca, rfl, hr2⟩
 clear hr2
 obtain ⟨vb, hvb⟩ : ∃ vb, W.heap.size = vb := ⟨_, rfl⟩
 obtain ⟨W0, hW0⟩ : ∃ W0, W.alloc (.cells #[.int .i64 0, .int .i64 0, .string ⟨#[]⟩] 28) = W0 := ⟨_, rfl⟩
 have b1 := Box.new W 28 #[.int .i64 0, .int .i64 0, .string ⟨#[]⟩]
 have bb : Below W.heap.size W (W.alloc (.cells #[.int .i64 0, .int .i64 0, .string ⟨#[]⟩] 28)) := (Below.refl _ _).alloc (Nat.le_refl _) _
 rw [hW0] at b1 bb
 rw [hvb] at b1
 have HW0 := Veil.mk (And.intro hW0 hvb)
 have H0 := Veil.mk (H.on bb)
 have HPR : Veil (Calls Tryz.prog 37 #[.pointer (some ⟨m, 0, none⟩), .int .i64 2] W0 fun e w' => e = .returned (.int .i64 (f 2)) /\ w' = W0) := ⟨H0.out.proto_any 2 (by decide)⟩
 have HCR := Veil.mk (H0.out.create 1 (f 2) hn)
 have HAT : Veil (A < W.heap.size) := ⟨H.alt⟩
 have HAM : Veil (A <= m /\ m < W.heap.size) := ⟨H.am, H.mb.lt⟩
 have HX := Veil.mk (And.intro b1 bb)
 have hle : ¬ (10000 : Int) < (l.length : Int) := by omega
 obtain ⟨n, hn2⟩ : ∃ n, l.length = n := ⟨_, rfl⟩
 have HN := Veil.mk hn2
 rw [hn2] at HRW hle ⊢
 clear hW0 hvb b1 bb H hn2 hl hn
 go_enter Tryz.func11, Tryz.ntmps11
 go_upto_region 1 with (fail)
 rw [HW0.out.1, HW0.out.2]
 go_upto_region 7 with (first | (go_at_call 37; ((with_reducible refine HPR.out.mono ?_); rintro e w1 ⟨rfl, h1⟩; subst w1)) | (go_at_call 36; ((with_reducible refine HCR.out.mono ?_); rintro e w2 ⟨rfl, hm2, hb2, hk2, hq2⟩)))
 have HKQ2 := Veil.mk ((Kq.of_below HAT.out HX.out.2).trans hq2)
 clear hq2
 have HQ2 := Veil.mk (And.intro hm2 (And.intro ((HX.out.2.mono (by have := HAM.out; omega)).trans hb2) ((Kp.of_below HX.out.2).trans hk2)))
 have HC2 := Veil.mk (clone_e (.slice ao n ca) l (by have := HN.out; omega) w2 (HRW.out.kp HQ2.out.2.2 rfl))
 have HA2 : Veil (A <= w2.heap.size) := ⟨Nat.le_trans (Nat.le_of_lt HAT.out) HQ2.out.2.1.size⟩
 have bv2 := hk2.box HX.out.1 rfl
 have bo2 : Box w2 W0.heap.size 63 (obj0 1 (f 2)) := hm2.ob (W0.heap.size, obj0 1 (f 2)) (by simp)
 have HB2 := Veil.mk (And.intro bv2 bo2)
 obtain ⟨ob, hob⟩ : ∃ ob, W0.heap.size = ob := ⟨_, rfl⟩
 rw [hob] at HB2 HQ2 ⊢
 have HOB := Veil.mk hob
 clear hob
 clear hm2 hb2 hk2 bv2 bo2 HPR HCR
 skip
 go_upto_region 8 with (go_at_call 38; ((with_reducible refine HC2.out.mono ?_); rintro e w3 ⟨v, rfl, hb3, hv3, hg3⟩; have HG3 := Veil.mk hg3; clear hg3; have HB3 := Veil.mk (And.intro hb3 (And.intro hv3 (And.intro (HB2.out.1.below hb3) (HB2.out.2.below hb3)))); have o4 : w3.cell? ⟨ob, 4, none⟩ = some (.slice none 0 0) := HB3.out.2.2.2.at_ 4; have of4 := HB3.out.2.2.2.free 4; obtain ⟨a9, c9, hv9, -⟩ := HB3.out.2.1.1; subst hv9; clear hb3 hv3))
 have HM4 := Veil.mk ((HQ2.out.1.on HB3.out.1).setObj (os1 := os) (os2 := []) (by intro e; cases e) 4 (.slice a9 l.length c9))
 have ht4 : Touch (fun k => k = ob) w3 (w3.setCell ⟨ob, 4, none⟩ (.slice a9 l.length c9)) := Touch.put (S := fun k => k = ob) rfl _ _
 have HV4 : Veil (Box (w3.setCell ⟨ob, 4, none⟩ (.slice a9 l.length c9)) vb 28 #[.int .i64 0, .int .i64 0, .string ⟨#[]⟩]) := ⟨HB3.out.2.2.1.touch ht4 (fun e => HB3.out.2.2.1.lab.ne HB3.out.2.2.2.lab (by decide) e)⟩
 have HR4 : Veil (RowE (w3.setCell ⟨ob, 4, none⟩ (.slice a9 l.length c9)) w2.heap.size (.slice a9 l.length c9) l) := ⟨HB3.out.2.1.kp (Kp.put (ts := [63]) HB3.out.2.2.2.lab rfl _ _) rfl⟩
 have HK4 : Veil (Below A W (w3.setCell ⟨ob, 4, none⟩ (.slice a9 l.length c9)) /\ Kp arT W (w3.setCell ⟨ob, 4, none⟩ (.slice a9 l.length c9)) /\ Kq A W (w3.setCell ⟨ob, 4, none⟩ (.slice a9 l.length c9))) := by
  have hA : A <= W.heap.size := by have := HAM.out; omega
  have ho : W.heap.size <= ob := by rw [<- HOB.out]; exact HX.out.2.size
  have hb3 := HQ2.out.2.1.trans (HB3.out.1.mono (Nat.le_trans hA HQ2.out.2.1.size))
  exact ⟨hb3.setCell (p := ⟨ob, 4, none⟩) (by show A <= ob; omega) _, (HQ2.out.2.2.trans (Kp.of_below HB3.out.1)).new ho _ _, (HKQ2.out.trans (Kq.of_below (Nat.lt_of_lt_of_le HAT.out HKQ2.out.size) HB3.out.1)).new HAT.out ho _ _⟩
 have HG4 : Veil (∀ ad n cap, Value.slice a9 l.length c9 = .slice (some ad) n cap -> vb < ad.block) := ⟨fun ad n cap e => by
  have h1 := HG3.out ad n cap e
  have h2 := HB2.out.1.lt
  omega⟩
 clear ht4 HB3 HB2 HQ2 HC2 H0 HG3 HRW o4 of4
 generalize (w3.setCell ⟨ob, 4, none⟩ (.slice a9 l.length c9)) = w4 at HM4 HV4 HR4 HK4 ⊢
 have HVO := Veil.mk (object_mk ((os.length : Int) + 1) w4)
 go_wp2_with (go_at_call 23; ((with_reducible refine HVO.out.mono ?_); rintro e w5 ⟨rfl, hb5⟩; have HB5 := Veil.mk (And.intro hb5 (HV4.out.below hb5)); have v0 : w5.cell? ⟨vb, 0, none⟩ = some (.int .i64 0) := HB5.out.2.at_ 0; have v1 : w5.cell? ⟨vb, 1, none⟩ = some (.int .i64 0) := HB5.out.2.at_ 1; have v2 : w5.cell? ⟨vb, 2, none⟩ = some (.string ⟨#[]⟩) := HB5.out.2.at_ 2; have g0 := HB5.out.2.free 0; have g1 := HB5.out.2.free 1; have g2 := HB5.out.2.free 2; clear hb5))
 have hr6 := ((HB5.out.2.put 0 (.int .i64 9)).put 1 (.int .i64 ((os.length : Int) + 1))).put 2 (.string ⟨#[]⟩)
 have y0 := hr6.at_ 0
 have y1 := hr6.at_ 1
 have y2 := hr6.at_ 2
 have hA : A <= W.heap.size := by have := HAM.out; omega
 have hvb : W.heap.size = vb := HW0.out.2
 have kx : Kp [28] w5 (((w5.setCell ⟨vb, 0, none⟩ (.int .i64 9)).setCell ⟨vb, 1, none⟩ (.int .i64 ((os.length : Int) + 1))).setCell ⟨vb, 2, none⟩ (.string ⟨#[]⟩)) := ((Kp.put HB5.out.2.lab rfl _ _).trans (Kp.put (HB5.out.2.put 0 _).lab rfl _ _)).trans (Kp.put ((HB5.out.2.put 0 _).put 1 _).lab rfl _ _)
 have hm6 := ((HM4.out.on HB5.out.1).kp kx (by decide))
 refine bodyPost_ret (v := valV (9, (os.length : Int) + 1, ⟨#[]⟩)) (by simp [results, Tryz.results11, go_sem, y0, y1, y2]) rfl ⟨rfl, ob, _, by rw [<- HOB.out]; exact HX.out.2.size, hm6, ?_, ?_, ?_, ?_, ?_⟩
 ·have hG : ∀ ad n cap, Value.slice a9 l.length c9 = .slice (some ad) n cap -> ad.block ≠ vb := fun ad n cap e => by have := HG4.out ad n cap e; omega
  exact ((((HR4.out.on HB5.out.1).put vb _ _ hG).put vb _ _ hG).put vb _ _ hG).mono HA2.out
 ·exact (((HK4.out.1.trans (HB5.out.1.mono (Nat.le_trans hA HK4.out.1.size))).setCell (p := ⟨vb, 0, none⟩) (by show A <= vb; omega) _).setCell (p := ⟨vb, 1, none⟩) (by show A <= vb; omega) _).setCell (p := ⟨vb, 2, none⟩) (by show A <= vb; omega) _
 ·exact (((HK4.out.2.1.trans (Kp.of_below HB5.out.1)).new (by omega) _ _).new (by omega) _ _).new (by omega) _ _
 ·exact (((HK4.out.2.2.trans (Kq.of_below (Nat.lt_of_lt_of_le HAT.out HK4.out.2.2.size) HB5.out.1)).new HAT.out (by omega) _ _).new HAT.out (by omega) _ _).new HAT.out (by omega) _ _
 ·intro ad n cap e
  rw [hvb]
  exact HG4.out ad n cap e
abbrev TO.arr (b : Nat) (proto : Int) (ev : Value) : TO := ⟨b, 1, proto, .pointer none, ev, .nilIface, kd0, fun _ => False, []⟩
theorem MP.arrayE (H : MP W h A m f ts) (sv : Value) (l : List Vt) (hr : RowV W sv l) (hl : l.length <= 10000) (hn : ts.length < 100000) : Calls Tryz.prog 11 #[.pointer (some ⟨m, 0, none⟩), sv] W fun e w' => e = .returned (valV (9, (ts.length : Int) + 1, ⟨#[]⟩)) /\ ∃ b ev, MP w' h A m f (ts ++ [TO.arr b (f 2) ev]) /\ RowE w' A ev l /\ Bk A W w' /\ ∀ ad n cap, ev = .slice (some ad) n cap -> W.heap.size <= ad.block := by
 refine (H.mm.arrayE sv l hr hl (by rw [List.length_map]; omega)).mono ?_
 rintro e w' ⟨he, b, ev, h1, h2, h3, h4, h5, h6, h7⟩
 rw [List.length_map] at he
 exact ⟨he, b, ev, H.new (t := TO.arr b (f 2) ev) h2 h6 h4 h1 (fun _ h => h) (.inl ⟨rfl, rfl, rfl⟩), h3, Bk.of_kp h4 h5, fun ad n cap e9 => Nat.le_of_lt (h7 ad n cap e9)⟩
end
end Go.Proofs.YtahkohfppakaiaaGreatDoor
