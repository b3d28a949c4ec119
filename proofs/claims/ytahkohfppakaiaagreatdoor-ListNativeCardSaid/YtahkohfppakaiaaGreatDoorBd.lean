/- Texts of the stage, joined: Fa Aa Ab Ac Ha Fb Fm Fc Fd Fe Fg Fh Fi Fj Fk Fl Fv Hb Hn Ig Ih Il Ir Hc Hd. -/
import Derived.WalkKit
import Derived.WalkSpells
import Derived.WalkLawsBesides
import Derived.Below
import Derived.BigQuiet
import Derived.IntWalk
import Derived.Deep.LoopGhost
import Derived.Lib.OthersKept
import Derived.Lib.UnsafeStr
import Derived.Lib.BufferRead
import Derived.Laws.MakeOwn
import Derived.Laws.OwnMore
import Derived.Deep.QuietTactic
import Derived.Laws.RangeAny
import Derived.Lib.Hide
import Derived.Deep.AppendLies
import Derived.Laws.Rows
import Derived.Deep.CutBlock
import Derived.Deep.RegionLaw
import Derived.Deep.RegionHeld3
import Derived.RegionTactic
import Derived.BigRegion
import Derived.ChangeAlike
import Derived.LoopTactic
import Derived.Test.YtahkohfppakaiaaGreatDoorRows
import Derived.Test.YtahkohfppakaiaaGreatDoorBb
import Derived.Test.YtahkohfppakaiaaGreatDoorBa
set_option maxHeartbeats 40000000
set_option maxRecDepth 100000
namespace Go.Proofs.YtahkohfppakaiaaGreatDoor
open Go.RowKit
theorem ret_int {k : IntKind} {a b : Int} (h : a = b) : Ending.returned (.int k a) = Ending.returned (.int k b) := by rw [h]
structure Veil (p : Prop) : Prop where
 out : p
theorem lt_of_block {w : World} {k : Nat} {o : Obj} (h : w.heap[k]? = some o) : k < w.heap.size := (Array.getElem?_eq_some_iff.1 h).1
theorem blw2 {w w1 w2 : World} (h : Below w.heap.size w w1) (h2 : Below w1.heap.size w1 w2) : Below w.heap.size w w2 := h.trans (h2.mono h.size)
def Box (w : World) (g : Nat) (t : TypeId) (cs : Array Value) : Prop := w.heap[g]? = some (.cells cs t (0, 0))
section
variable {w w' : World} {g : Nat} {t : TypeId} {cs : Array Value}
theorem Box.lt (h : Box w g t cs) : g < w.heap.size := (Array.getElem?_eq_some_iff.1 h).1
theorem Box.at_ (h : Box w g t cs) (i : Nat) : w.cell? ⟨g, i, none⟩ = cs[i]? := cell_of_row w g i cs t (0, 0) h
theorem Box.free (h : Box w g t cs) (i : Nat) : w.frozen? ⟨g, i, none⟩ = false := by
 have h' : w.heap[g]? = some (.cells cs t (0, 0)) := h
 simp [World.frozen?, h']
theorem Box.new (w : World) (t : TypeId) (cs : Array Value) : Box (w.alloc (.cells cs t)) w.heap.size t cs := by
 show (w.heap.push _)[w.heap.size]? = _
 simp
theorem Box.on {B : Nat} (h : Box w g t cs) (hb : Below B w w') (hg : g < B) : Box w' g t cs := (hb.block g hg).trans h
theorem Box.more (h : Box w g t cs) (o : Obj) : Box (w.alloc o) g t cs := (Below.heap_alloc w o g h.lt).trans h
theorem Box.grown {row : Option Nat} (h : Box w g t cs) (hb : w.grownBy w' row) (hg : some g ≠ row) : Box w' g t cs := (hb.block g h.lt hg).trans h
theorem Box.put (h : Box w g t cs) (i : Nat) (u : Value) : Box (w.setCell ⟨g, i, none⟩ u) g t (cs.setIfInBounds i u) := by
 have h' : w.heap[g]? = some (.cells cs t (0, 0)) := h
 show (w.heap.modify g _)[g]? = _
 simp [Array.getElem?_modify, h']
theorem Box.other {g2 : Nat} {t2 : TypeId} {cs2 : Array Value} (h : Box w g t cs) (h2 : Box w g2 t2 cs2) (hne : t ≠ t2) : g ≠ g2 := by
 intro e
 subst e
 have := (show w.heap[g]? = some (.cells cs t (0, 0)) from h).symm.trans h2
 injection this with this
 injection this with _ ht
 exact hne ht
theorem Box.apart {base : Nat} {e : TypeId} {size n : Nat} {v : Value} {xs : List Value} (h : Box w g t cs) (ho : w.ownsRow base e size v n xs) (hne : t ≠ e) : some g ≠ v.ownBlock := by
 intro he
 rcases ho.2 with ⟨rfl, _⟩ | ⟨g2, cap, cur, rfl, _, hh, _⟩
 ·simp [Value.ownBlock] at he
 ·have e2 : g = g2 := by simpa [Value.ownBlock] using he
  subst e2
  exact Box.other (g2 := g) h hh hne rfl
end
section
variable {a w w' : World} {g : Nat}
end
theorem cells_new (w : World) (cs : List Value) (t : TypeId) : ∀ j u, cs[j]? = some u -> (w.alloc (.cells cs.toArray t)).cell? ((⟨w.heap.size, 0, none⟩ : Addr).add j) = some u := by
 intro j u hj
 have : ((⟨w.heap.size, 0, none⟩ : Addr).add j) = ⟨w.heap.size, j, none⟩ := by
  unfold Addr.add; split
  ·simp [*]
  ·simp
 rw [this]
 simp [hj]
structure Touch (S : Nat -> Prop) (w w' : World) : Prop where
 os : w'.os = w.os
 tape : w'.tape = w.tape
 output : w'.output = w.output
 size : w.heap.size <= w'.heap.size
 block : ∀ k, k < w.heap.size -> ¬ S k -> w'.heap[k]? = w.heap[k]?
section
variable {S : Nat -> Prop} {a w w' : World}
theorem Touch.refl (S : Nat -> Prop) (w : World) : Touch S w w := ⟨rfl, rfl, rfl, Nat.le_refl _, fun _ _ _ => rfl⟩
theorem Touch.trans (h : Touch S a w) (h2 : Touch S w w') : Touch S a w' := ⟨h2.os.trans h.os, h2.tape.trans h.tape, h2.output.trans h.output, Nat.le_trans h.size h2.size, fun k hk hs => (h2.block k (Nat.lt_of_lt_of_le hk h.size) hs).trans (h.block k hk hs)⟩
theorem Touch.mono {S' : Nat -> Prop} (h : Touch S a w) (hs : ∀ k, S k -> S' k) : Touch S' a w := ⟨h.os, h.tape, h.output, h.size, fun k hk hn => h.block k hk (fun h2 => hn (hs k h2))⟩
theorem Touch.of_below (h : Below a.heap.size a w) : Touch S a w := ⟨h.os, h.tape, h.output, h.size, fun k hk _ => h.block k hk⟩
theorem Touch.of_grown {row : Option Nat} (h : a.grownBy w row) (hs : ∀ k, row = some k -> S k) : Touch S a w := ⟨h.os, h.tape, h.output, h.size, fun k hk hn => h.block k hk (fun e => hn (hs k e.symm))⟩
theorem Touch.put {g : Nat} (hs : S g) (i : Nat) (u : Value) : Touch S w (w.setCell ⟨g, i, none⟩ u) :=
 ⟨rfl, rfl, rfl, by simp [World.setCell], fun k _ hn => Below.heap_setCell w ⟨g, i, none⟩ u k (fun e => hn (by rw [e]; exact hs))⟩
theorem Touch.below {B : Nat} (h : Touch S a w) (hB : B <= a.heap.size) (hs : ∀ k, S k -> B <= k) : Below B a w := ⟨h.os, h.tape, h.output, h.size, fun k hk => h.block k (by omega) (fun h2 => by have := hs k h2; omega)⟩
theorem Box.touch {g : Nat} {t : TypeId} {cs : Array Value} (h : Box a g t cs) (ht : Touch S a w) (hn : ¬ S g) : Box w g t cs := (ht.block g h.lt hn).trans h
theorem own_touch {base : Nat} {e : TypeId} {size : Nat} {v : Value} {n : Nat} {xs : List Value} (h : a.ownsRow base e size v n xs) (ht : Touch S a w) (hn : ∀ k, v.ownBlock = some k -> ¬ S k) : w.ownsRow base e size v n xs := by
 refine ⟨h.1, ?_⟩
 rcases h.2 with h2 | ⟨g, cap, cur, e1, e2, e3, e4⟩
 ·exact .inl h2
 ·refine .inr ⟨g, cap, cur, e1, e2, ?_, e4⟩
  rw [ht.block g (Array.getElem?_eq_some_iff.1 e3).1 (hn g (by rw [e1]; rfl))]
  exact e3
end
abbrev Vt := Int × Int × ByteArray
abbrev valV (x : Vt) : Value := .agg #[.int .i64 x.1, .int .i64 x.2.1, .string x.2.2]
abbrev e0 : ByteArray := ⟨#[]⟩
end Go.Proofs.YtahkohfppakaiaaGreatDoor
namespace Go.Proofs.YtahkohfppakaiaaGreatDoor
open Go Go.RowKit
theorem own_put {w : World} {B g n cap : Nat} {e : TypeId} {xs : List Value} (h : w.ownsRow B e 1 (.slice (some ⟨g, 0, none⟩) n cap) n xs) (i : Nat) (u : Value) : (w.setCell ⟨g, i, none⟩ u).ownsRow B e 1 (.slice (some ⟨g, 0, none⟩) n cap) n (xs.set i u) := by
 refine ⟨by rw [List.length_set]; exact h.1, ?_⟩
 rcases h.2 with ⟨h1, _⟩ | ⟨g', cap', cur, h1, h2, h3, h4, h5, h6, h7⟩
 ·cases h1
 ·cases h1
  refine .inr ⟨g, cap, cur.setIfInBounds i u, rfl, h2, ?_, h4, h5, by rw [Array.size_setIfInBounds]; exact h6, ?_⟩
  ·show (w.heap.modify g _)[g]? = _
   simp [Array.getElem?_modify, h3]
  ·rw [Array.toList_setIfInBounds, List.take_set, h7]
theorem Box.drew {w : World} {g : Nat} {t : TypeId} {cs : Array Value} (h : Box w g t cs) : Box w.drew g t cs := h
theorem own_drew {w : World} {base : Nat} {e : TypeId} {size : Nat} {v : Value} {n : Nat} {xs : List Value} (h : w.ownsRow base e size v n xs) : w.drew.ownsRow base e size v n xs := h
theorem cells_drew {w : World} {a : Addr} {cs : List Value} (h : ∀ j u, cs[j]? = some u -> w.cell? (a.add j) = some u) : ∀ j u, cs[j]? = some u -> w.drew.cell? (a.add j) = some u := h
theorem news_at (w : World) (n : Nat) (hn : w.heap.size = n) (cs : List Value) (t : TypeId) : ∀ j u, cs[j]? = some u -> (w.alloc (.cells cs.toArray t)).cell? ((⟨n, 0, none⟩ : Addr).add j) = some u := by subst hn; exact cells_new w cs t
theorem own_free {w : World} {B g n cap size : Nat} {e : TypeId} {xs : List Value} (h : w.ownsRow B e size (.slice (some ⟨g, 0, none⟩) n cap) n xs) (i : Nat) : w.frozen? ⟨g, i, none⟩ = false := by
 rcases h.2 with ⟨h1, _⟩ | ⟨g', cap', cur, h1, h2, h3, _⟩
 ·cases h1
 ·cases h1
  simp [World.frozen?, h3]
def Lab (w : World) (k : Nat) (e : TypeId) : Prop := ∃ cs fr, w.heap[k]? = some (.cells cs e fr)
theorem Lab.ne {w : World} {k k' : Nat} {e e' : TypeId} (h : Lab w k e) (h' : Lab w k' e') (he : e ≠ e') : k ≠ k' := by
 rintro rfl
 obtain ⟨cs, fr, h⟩ := h
 obtain ⟨cs', fr', h'⟩ := h'
 rw [h] at h'
 injection h' with h'
 injection h' with _ h'
 exact he h'
theorem Box.lab {w : World} {g : Nat} {t : TypeId} {cs : Array Value} (h : Box w g t cs) : Lab w g t := ⟨cs, _, h⟩
theorem own_lab {w : World} {B n size : Nat} {v : Value} {xs : List Value} {e : TypeId} (h : w.ownsRow B e size v n xs) : ∀ k, v.ownBlock = some k -> Lab w k e := fun k hk => by
 rcases h.2 with ⟨rfl, _⟩ | ⟨g, cap, cur, rfl, _, hc, _⟩
 ·cases hk
 ·cases hk; exact ⟨cur, _, hc⟩
theorem own_lt {w : World} {B n size : Nat} {v : Value} {xs : List Value} {e : TypeId} (h : w.ownsRow B e size v n xs) : ∀ k, v.ownBlock = some k -> B <= k /\ k < w.heap.size := fun k hk => h.lt k hk
theorem slice_own {w : World} {B n size : Nat} {v : Value} {xs : List Value} {e : TypeId} (h : w.ownsRow B e size v n xs) : ∃ ao cap, v = .slice ao n cap /\ n <= cap /\ (0 < n -> ∃ g, ao = some ⟨g, 0, none⟩) /\ cap <= maxLen := by
 rcases h.2 with ⟨rfl, h0⟩ | ⟨g, cap, cur, rfl, _, _, hc, hm, _⟩
 ·exact ⟨none, 0, by rw [h0], by omega, fun h => by omega, by unfold maxLen; omega⟩
 ·exact ⟨_, cap, rfl, hc, fun _ => ⟨g, rfl⟩, hm⟩
theorem own_below {w w' : World} {B n size : Nat} {v : Value} {xs : List Value} {e : TypeId} (h : w.ownsRow B e size v n xs) (hb : Below w.heap.size w w') : w'.ownsRow B e size v n xs := own_touch h (Touch.of_below (S := fun _ => False) hb) (fun _ _ h => h)
theorem Box.below {w w' : World} {g : Nat} {t : TypeId} {cs : Array Value} (h : Box w g t cs) (hb : Below w.heap.size w w') : Box w' g t cs := h.on hb h.lt
abbrev numsV (l : List Nat) : List Value := l.map fun (r : Nat) => .int .i64 (r : Int)
abbrev intsV (l : List Int) : List Value := l.map fun r => .int .i64 r
abbrev Bd := TypeId × Nat
def bodyV (o : Option Bd) : Value := match o with | none => .nilIface | some nb => .iface nb.1 (.pointer (some ⟨nb.2, 0, none⟩))
structure AD where
 cells : List (Option Bd)
 free : List Nat
 count : Nat
 roots : List Int
structure ArAt (w : World) (B A : Nat) (cv fv rv : Value) (d : AD) : Prop where
 box : Box w A 187 #[cv, fv, .int .i64 (d.count : Int), rv]
 co : w.ownsRow B 138 1 cv d.cells.length (d.cells.map bodyV)
 fo : w.ownsRow B 3 1 fv d.free.length (numsV d.free)
 ro : w.ownsRow B 3 1 rv d.roots.length (intsV d.roots)
 ap : ∀ k, fv.ownBlock = some k -> rv.ownBlock ≠ some k
 ha : B <= A
def AFoot (A : Nat) (cv fv rv : Value) (k : Nat) : Prop := k = A \/ cv.ownBlock = some k \/ fv.ownBlock = some k \/ rv.ownBlock = some k
theorem ArAt.touch {w w' : World} {B A : Nat} {cv fv rv : Value} {d : AD} {S : Nat -> Prop} (h : ArAt w B A cv fv rv d) (ht : Touch S w w') (hn : ∀ k, AFoot A cv fv rv k -> ¬ S k) : ArAt w' B A cv fv rv d :=
 ⟨h.box.touch ht (hn A (.inl rfl)), own_touch h.co ht (fun k hk => hn k (.inr (.inl hk))), own_touch h.fo ht (fun k hk => hn k (.inr (.inr (.inl hk)))), own_touch h.ro ht (fun k hk => hn k (.inr (.inr (.inr hk)))), h.ap, h.ha⟩
theorem ArAt.on {w w' : World} {B A : Nat} {cv fv rv : Value} {d : AD} (h : ArAt w B A cv fv rv d) (hb : Below w.heap.size w w') : ArAt w' B A cv fv rv d := h.touch (S := fun _ => False) (Touch.of_below hb) (fun _ _ h => h)
theorem AFoot.lt {w : World} {B A : Nat} {cv fv rv : Value} {d : AD} (h : ArAt w B A cv fv rv d) {k : Nat} (hk : AFoot A cv fv rv k) : B <= k /\ k < w.heap.size := by
 rcases hk with rfl | hk | hk | hk
 ·exact ⟨h.ha, h.box.lt⟩
 ·exact own_lt h.co k hk
 ·exact own_lt h.fo k hk
 ·exact own_lt h.ro k hk
def ArPost (B A : Nat) (d : AD) (F : Nat -> Prop) (w w' : World) : Prop := ∃ cv fv rv, ArAt w' B A cv fv rv d /\ Touch F w w' /\ ∀ k, AFoot A cv fv rv k -> F k \/ w.heap.size <= k
theorem cell_body {w : World} {B A : Nat} {cv fv rv : Value} {d : AD} (h : ArAt w B A cv fv rv d) (i : Nat) (hi : i < d.cells.length) : ∃ g cap, cv = .slice (some ⟨g, 0, none⟩) d.cells.length cap /\ w.cell? ⟨g, i, none⟩ = some (bodyV (d.cells[i]?.getD none)) := by
 obtain ⟨ao, cap, rfl, hcap, hg, -⟩ := slice_own h.co
 obtain ⟨g, rfl⟩ := hg (by omega)
 refine ⟨g, cap, rfl, ?_⟩
 rw [h.co.cellAt i (by omega), List.getElem?_map, List.getElem?_eq_getElem hi]
 rfl
theorem len_le {w : World} {B n size : Nat} {v : Value} {xs : List Value} {e : TypeId} (h : w.ownsRow B e size v n xs) : n <= maxLen := by
 obtain ⟨ao, cap, rfl, hcap, hg, hm⟩ := slice_own h
 omega
/-! New, Count, Depth, Get -/
abbrev emptyD : AD := ⟨[], [], 0, []⟩
theorem new_any (w : World) : Calls Tryz.prog 103 #[] w fun e w' => e = .returned (.pointer (some ⟨w.heap.size, 0, none⟩)) /\ Below w.heap.size w w' /\ w.heap.size < w'.heap.size /\ ArAt w' w.heap.size w.heap.size (.slice none 0 0) (.slice none 0 0) (.slice none 0 0) emptyD := by
 have hb : Below w.heap.size w (w.alloc (.cells #[.slice none 0 0, .slice none 0 0, .int .i64 0, .slice none 0 0] 187)) := (Below.refl _ _).alloc (Nat.le_refl _) _
 have bx := Box.new w 187 #[.slice none 0 0, .slice none 0 0, .int .i64 0, .slice none 0 0]
 go_enter Tryz.func103, Tryz.ntmps103
 go_wp2
 go_ret
 exact ⟨rfl, hb, bx.lt, ⟨bx, ⟨rfl, .inl ⟨rfl, rfl⟩⟩, ⟨rfl, .inl ⟨rfl, rfl⟩⟩, ⟨rfl, .inl ⟨rfl, rfl⟩⟩, (fun k hk => by cases hk), Nat.le_refl _⟩⟩
theorem count_any (B A : Nat) (cv fv rv : Value) (d : AD) (w : World) (h : ArAt w B A cv fv rv d) : Calls Tryz.prog 123 #[.pointer (some ⟨A, 0, none⟩)] w fun e w' => e = .returned (.int .i64 (d.count : Int)) /\ w' = w := by
 have c2 : w.cell? ⟨A, 2, none⟩ = some (.int .i64 (d.count : Int)) := h.box.at_ 2
 clear h
 go_enter Tryz.func123, Tryz.ntmps123
 go_wp2
 go_ret
 exact ⟨rfl, rfl⟩
def AD.get (d : AD) (r : Int) : Option Bd := if 1 <= r /\ r <= d.cells.length then d.cells[(r - 1).toNat]?.getD none else none
theorem get_any (B A : Nat) (cv fv rv : Value) (d : AD) (r : Int) (w : World) (h : ArAt w B A cv fv rv d) : Calls Tryz.prog 66 #[.pointer (some ⟨A, 0, none⟩), .int .i64 r] w fun e w' => e = .returned (bodyV (d.get r)) /\ w' = w := by
 obtain ⟨ao, cap, hcv, -, -, -⟩ := slice_own h.co
 have c0 : w.cell? ⟨A, 0, none⟩ = some (.slice ao d.cells.length cap) := by rw [h.box.at_ 0, hcv]; rfl
 by_cases h1 : r < 1
 ·have hg : d.get r = none := by unfold AD.get; rw [if_neg (by omega)]
  rw [hg]
  clear h hcv hg
  go_enter Tryz.func66, Tryz.ntmps66
  go_wp2
  go_ret
  exact ⟨rfl, rfl⟩
 ·by_cases h2 : (d.cells.length : Int) < r
  ·have hg : d.get r = none := by unfold AD.get; rw [if_neg (by omega)]
   rw [hg]
   clear h hcv hg
   go_enter Tryz.func66, Tryz.ntmps66
   go_wp2
   go_ret
   exact ⟨rfl, rfl⟩
  ·have hg : d.get r = d.cells[(r - 1).toNat]?.getD none := by unfold AD.get; rw [if_pos (by omega)]
   obtain ⟨k, hk⟩ : ∃ k : Nat, r = (k : Int) + 1 := ⟨(r - 1).toNat, by omega⟩
   subst hk
   obtain ⟨g, cap', e, hc⟩ := cell_body h k (by omega)
   rw [hcv] at e
   injection e with e1 e2 e3
   subst e1 e3
   rw [hg, show ((k : Int) + 1 - 1).toNat = k by omega]
   obtain ⟨b, hb⟩ : ∃ b, d.cells[k]?.getD none = b := ⟨_, rfl⟩
   rw [hb] at hc ⊢
   have hm := len_le h.co
   unfold maxLen at hm
   have hk0 : (0 : Int) <= (k : Int) := by omega
   have hkl : (k : Int) < (d.cells.length : Int) := by omega
   have hk1 : (k : Int) + 1 - 1 = (k : Int) := by omega
   clear h hcv hg hb
   go_enter Tryz.func66, Tryz.ntmps66
   go_wp2
   go_ret
   exact ⟨rfl, rfl⟩
theorem Tryz.infoB : (Tryz.prog.info? 138).map (fun i => (i.zero, i.size, i.bytes)) = some (some .nilIface, 1, 16) := by kernel_rfl
section
variable {w : World} {B A : Nat} {cv fv rv : Value} {d : AD}
theorem ArAt.put2 (h : ArAt w B A cv fv rv d) (n : Nat) : ArAt (w.setCell ⟨A, 2, none⟩ (.int .i64 (n : Int))) B A cv fv rv { d with count := n } := by
 have tp : Touch (fun k => k = A) w (w.setCell ⟨A, 2, none⟩ (.int .i64 (n : Int))) := Touch.put (S := fun k => k = A) rfl _ _
 exact ⟨h.box.put 2 _, own_touch h.co tp (fun k hk e => ((own_lab h.co k hk).ne h.box.lab (by decide)) e), own_touch h.fo tp (fun k hk e => ((own_lab h.fo k hk).ne h.box.lab (by decide)) e), own_touch h.ro tp (fun k hk e => ((own_lab h.ro k hk).ne h.box.lab (by decide)) e), h.ap, h.ha⟩
end
def AD.mk2 (d : AD) (nb : Bd) : AD × Nat := match d.free.getLast? with
 | none => (⟨d.cells ++ [some nb], d.free, d.count + 1, d.roots⟩, d.cells.length + 1)
 | some r => (⟨d.cells.set (r - 1) (some nb), d.free.dropLast, d.count + 1, d.roots⟩, r)
abbrev nodeV (nb : Bd) : Value := .iface nb.1 (.pointer (some ⟨nb.2, 0, none⟩))
theorem nodeV_eql (nb : Bd) (w : World) : (binOp .eql 138 (nodeV nb) .nilIface).run Tryz.prog w = .ok (.bool false) w := rfl
def MkPost (B A : Nat) (d : AD) (nb : Bd) (F : Nat -> Prop) (w : World) (e : Ending) (w' : World) : Prop := e = .returned (.int .i64 ((d.mk2 nb).2 : Int)) /\ ArPost B A (d.mk2 nb).1 F w w'
theorem make_new (B A : Nat) (cv fv rv : Value) (d : AD) (nb : Bd) (w : World) (h : ArAt w B A cv fv rv d) (hf : d.free = []) (hc : d.count < 4194304) (hl : d.cells.length < 1000000) :
  Calls Tryz.prog 65 #[.pointer (some ⟨A, 0, none⟩), nodeV nb] w (MkPost B A d nb (AFoot A cv fv rv) w) := by
 obtain ⟨i0, hi, hz0, hz1, hz2⟩ := info_parts Tryz.infoB
 obtain ⟨ao, cap, rfl, hcap, hgc, hmc⟩ := slice_own h.co
 obtain ⟨ao1, cap1, rfl, -, -, -⟩ := slice_own h.fo
 have c1 : w.cell? ⟨A, 1, none⟩ = some (.slice ao1 0 cap1) := by rw [h.box.at_ 1, hf]; rfl
 have c2 : w.cell? ⟨A, 2, none⟩ = some (.int .i64 (d.count : Int)) := h.box.at_ 2
 have c2f := h.box.free 2
 have hn := nodeV_eql nb
 have hge : ((d.count : Int) ≥ 4194304) = False := by simp; omega
 have hge2 : ¬ (4194304 : Int) <= (d.count : Int) := by omega
 have hc0 : (0 : Int) <= (d.count : Int) := by omega
 have hc1 : (d.count : Int) < 4194304 := by omega
 have H := Veil.mk h
 have HM : Veil (MkPost B A d nb = fun F w e w' => e = .returned (.int .i64 ((d.cells.length : Int) + 1)) /\ ArPost B A ⟨d.cells ++ [some nb], d.free, d.count + 1, d.roots⟩ F w w') := ⟨by
  funext F w e w'
  unfold MkPost AD.mk2
  rw [hf]
  rfl⟩
 rw [HM.out]
 have HF := Veil.mk hf
 clear h hge hf
 go_enter Tryz.func65, Tryz.ntmps65
 go_upto_region 4 with (fail)
 have h1 := H.out.put2 (d.count + 1)
 have t1 : Touch (fun k => k = A) w (w.setCell ⟨A, 2, none⟩ (.int .i64 ((d.count + 1 : Nat) : Int))) := Touch.put (S := fun k => k = A) rfl _ _
 rw [show ((d.count + 1 : Nat) : Int) = (d.count : Int) + 1 by omega] at h1 t1
 generalize w.setCell ⟨A, 2, none⟩ (.int .i64 ((d.count : Int) + 1)) = W at h1 t1 ⊢
 have d1 : W.cell? ⟨A, 1, none⟩ = some (.slice ao1 0 cap1) := by rw [h1.box.at_ 1]; show some (Value.slice ao1 d.free.length cap1) = _; rw [HF.out]; rfl
 have d0 : W.cell? ⟨A, 0, none⟩ = some (.slice ao d.cells.length cap) := h1.box.at_ 0
 have d0f := h1.box.free 0
 have hBs : B <= W.heap.size := by have := h1.ha; have := h1.box.lt; omega
 have hap := h1.box.apart h1.co (by decide)
 have tl2 : A < W.heap.size := h1.box.lt
 have hco : W.ownsRow B 138 1 (.slice ao d.cells.length cap) d.cells.length (d.cells.map bodyV) := h1.co
 clear c1 c2 c2f
 go_wp2_with (at_builtin; go_loud (refine wpList_append_lies _ rfl _ _ 185 rfl B 138 i0 .nilIface 1 16 Tryz.underlying185 hi hz0 hz1 hz2 rfl (by decide) _ _ _ rfl (hco.alloc _) ⟨W.heap.size, 0, none⟩ 1 1 [nodeV nb] rfl rfl (news_at _ _ rfl _ _) (by simp [Value.oneCell']) (by decide) (by unfold maxLen; omega) (by omega) (by simp; omega) _ rfl ?_); intro g cap' w3 hown' hgrow3 hblk hg3; have hx3 : Box w3 A _ _ := (h1.box.more _).grown hgrow3 hap; have e12 : w3.cell? ⟨A, 0, none⟩ = some (.slice ao d.cells.length cap) := hx3.at_ 0; have e13 := hx3.free 0; refine Hid.out ?_)
 have hgrow : (W.alloc (.cells #[nodeV nb] 138)).grownBy w3 (Value.slice ao d.cells.length cap).ownBlock := hgrow3
 have hblk' : (Value.slice ao d.cells.length cap).ownBlock = some g \/ g = (W.alloc (.cells #[nodeV nb] 138)).heap.size := hblk
 have ht : Touch (fun k => (Value.slice ao d.cells.length cap).ownBlock = some k) W w3 := (Touch.of_below ((Below.refl W.heap.size W).alloc (Nat.le_refl _) (.cells #[nodeV nb] 138))).trans (Touch.of_grown hgrow (fun k hk => hk))
 have lc := own_lab h1.co
 have f3 := own_touch h1.fo ht (fun k hk e => (lc k e).ne (own_lab h1.fo k hk) (by decide) rfl)
 have r3 := own_touch h1.ro ht (fun k hk e => (lc k e).ne (own_lab h1.ro k hk) (by decide) rfl)
 have tp : Touch (fun k => k = A) w3 (w3.setCell ⟨A, 0, none⟩ (.slice (some ⟨g, 0, none⟩) (d.cells.length + 1) cap')) := Touch.put (S := fun k => k = A) rfl _ _
 have hnew : w3.ownsRow B 138 1 (.slice (some ⟨g, 0, none⟩) (d.cells.length + 1) cap') (d.cells ++ [some nb]).length ((d.cells ++ [some nb]).map bodyV) := by
  rw [List.length_append, List.map_append]
  exact hown'
 have hD : ArPost B A ⟨d.cells ++ [some nb], d.free, d.count + 1, d.roots⟩ (AFoot A (.slice ao d.cells.length cap) (.slice ao1 d.free.length cap1) rv) w (w3.setCell ⟨A, 0, none⟩ (.slice (some ⟨g, 0, none⟩) (d.cells.length + 1) cap')) := by
  refine ⟨_, _, _, ⟨hx3.put 0 _, own_touch hnew tp (fun k hk e => ((own_lab hnew k hk).ne hx3.lab (by decide)) e), own_touch f3 tp (fun k hk e => ((own_lab f3 k hk).ne hx3.lab (by decide)) e), own_touch r3 tp (fun k hk e => ((own_lab r3 k hk).ne hx3.lab (by decide)) e), h1.ap, h1.ha⟩, ?_, ?_⟩
  ·exact (t1.mono (fun k hk => .inl hk)).trans ((ht.mono (fun k hk => .inr (.inl hk))).trans (tp.mono (fun k hk => .inl hk)))
  ·rintro k (hk | hk | hk | hk)
   ·exact .inl (.inl hk)
   ·cases hk
    rcases hblk' with hb | hb
    ·exact .inl (.inr (.inl hb))
    ·have := t1.size
     refine .inr ?_
     show w.heap.size <= g
     rw [hb, World.size_alloc]
     omega
   ·exact .inl (.inr (.inr (.inl hk)))
   ·exact .inl (.inr (.inr (.inr hk)))
 have HD := Veil.mk hD
 clear hD ht hblk' hgrow hgrow3 hblk hown' h1 hap f3 r3 tp hnew
 refine Lib.hid ?_
 go_upto_region 11 with (fail)
 have x0 : (w3.setCell ⟨A, 0, none⟩ (.slice (some ⟨g, 0, none⟩) (d.cells.length + 1) cap')).cell? ⟨A, 0, none⟩ = some (.slice (some ⟨g, 0, none⟩) (d.cells.length + 1) cap') := (hx3.put 0 _).at_ 0
 generalize w3.setCell ⟨A, 0, none⟩ (.slice (some ⟨g, 0, none⟩) (d.cells.length + 1) cap') = W5 at HD x0 ⊢
 clear hx3 e12 e13 d0 d0f d1
 go_wp2
 go_ret
 exact ⟨rfl, HD.out⟩
theorem AFoot.lab {w : World} {B A : Nat} {cv fv rv : Value} {d : AD} (h : ArAt w B A cv fv rv d) {k : Nat} {e : TypeId} (hl : Lab w k e) (e1 : e ≠ 187) (e2 : e ≠ 138) (e3 : e ≠ 3) : ¬ AFoot A cv fv rv k := fun hk => by
 rcases hk with hk | hk | hk | hk
 ·exact hl.ne h.box.lab e1 hk
 ·exact hl.ne (own_lab h.co k hk) e2 rfl
 ·exact hl.ne (own_lab h.fo k hk) e3 rfl
 ·exact hl.ne (own_lab h.ro k hk) e3 rfl
abbrev obj0 (cl proto : Int) : Array Value := #[.int .i64 cl, .int .i64 proto, .bool false, .pointer none, .slice none 0 0, .slice none 0 0, .pointer none, .pointer none, .pointer none, .slice none 0 0, .nilIface, .int .i64 0, .int .i64 0, .int .i64 0, .int .i64 0, .nilIface]
structure HpAt (w : World) (B h A : Nat) (cv fv rv : Value) (d : AD) : Prop where
 hb : Box w h 135 #[.pointer (some ⟨A, 0, none⟩), .int .i64 0]
 ar : ArAt w B A cv fv rv d
 hB : B <= h
theorem heap_make {w : World} {B h A : Nat} {cv fv rv : Value} {d : AD} (hp : HpAt w B h A cv fv rv d) (cl proto : Int) (hf : d.free = []) (hc : d.count < 1000000) (hl : d.cells.length < 1000000) :
  Calls Tryz.prog 31 #[.pointer (some ⟨h, 0, none⟩), .int .i64 cl, .int .i64 proto] w fun e w' => e = .returned (.tuple #[.int .i64 ((d.cells.length : Int) + 1), .pointer (some ⟨w.heap.size, 0, none⟩)]) /\ Box w' w.heap.size 63 (obj0 cl proto) /\ Touch (AFoot A cv fv rv) w w' /\ ∃ cv' fv' rv', HpAt w' B h A cv' fv' rv' ⟨d.cells ++ [some (64, w.heap.size)], [], d.count + 1, d.roots⟩ /\ ∀ k, AFoot A cv' fv' rv' k -> AFoot A cv fv rv k \/ w.heap.size <= k := by
 have bb : Below w.heap.size w (w.alloc (.cells (obj0 cl proto) 63)) := (Below.refl _ _).alloc (Nat.le_refl _) _
 have bx := Box.new w 63 (obj0 cl proto)
 have a1 := hp.ar.on bb
 have HM := Veil.mk (make_new B A cv fv rv d (64, w.heap.size) _ a1 hf (by omega) hl)
 have h0 : (w.alloc (.cells (obj0 cl proto) 63)).cell? ⟨h, 0, none⟩ = some (.pointer (some ⟨A, 0, none⟩)) := (hp.hb.below bb).at_ 0
 have HP := Veil.mk (And.intro hp (And.intro bb (And.intro bx (And.intro a1 hf))))
 have hl0 : (0 : Int) <= (d.cells.length : Int) := by omega
 have hne : ((d.cells.length : Int) + 1 = 0) = False := by simp; omega
 clear hp bb bx a1 hf
 go_enter Tryz.func31, Tryz.ntmps31
 have em : d.mk2 (64, w.heap.size) = (⟨d.cells ++ [some (64, w.heap.size)], d.free, d.count + 1, d.roots⟩, d.cells.length + 1) := by
  unfold AD.mk2
  rw [HP.out.2.2.2.2]
  rfl
 have HM2 : Veil (Calls Tryz.prog 65 #[.pointer (some ⟨A, 0, none⟩), nodeV (64, w.heap.size)] (w.alloc (.cells (obj0 cl proto) 63)) fun e w' => e = .returned (.int .i64 ((d.cells.length : Int) + 1)) /\ ArPost B A ⟨d.cells ++ [some (64, w.heap.size)], d.free, d.count + 1, d.roots⟩ (AFoot A cv fv rv) (w.alloc (.cells (obj0 cl proto) 63)) w') := ⟨by
  refine HM.out.mono ?_
  rintro e w' ⟨h1, h2⟩
  rw [em] at h1 h2
  exact ⟨h1, h2⟩⟩
 clear HM em
 go_upto_region 4 with (fail)
 go_wp2_with (first | (go_at_call 65; ((with_reducible refine HM2.out.mono ?_); rintro e w4 ⟨rfl, hp4⟩)))
 obtain ⟨hp, bb, bx, a1, hf⟩ := HP.out
 obtain ⟨cv4, fv4, rv4, p1, p2, p3⟩ := hp4
 rw [hf] at p1
 refine bodyPost_ret (v := .tuple #[.int .i64 ((d.cells.length : Int) + 1), .pointer (some ⟨w.heap.size, 0, none⟩)]) (by simp [results, Tryz.results31, go_sem]) rfl ⟨rfl, bx.touch p2 (AFoot.lab a1 bx.lab (by decide) (by decide) (by decide)), (Touch.of_below bb).trans p2, cv4, fv4, rv4, ⟨(hp.hb.below bb).touch p2 (AFoot.lab a1 (hp.hb.below bb).lab (by decide) (by decide) (by decide)), p1, hp.hB⟩, fun k hk => (p3 k hk).imp id (fun h => by rw [World.size_alloc] at h; omega)⟩
end Go.Proofs.YtahkohfppakaiaaGreatDoor
namespace Go.Proofs.YtahkohfppakaiaaGreatDoor
open Go.RowKit
abbrev V3 (k n : Int) (s : ByteArray) : Value := .agg #[.int .i64 k, .int .i64 n, .string s]
def keyT (x : Vt) : Vt := if x.1 = 6 then (3, 0, e0) else x
theorem key_any (x : Vt) (w : World) : Calls Tryz.prog 99 #[valV x] w fun e w' => e = .returned (valV (keyT x)) /\ Below w.heap.size w w' := by
 obtain ⟨k, n, s⟩ := x
 by_cases h : k = 6
 ·subst h
  go_enter Tryz.func99, Tryz.ntmps99
  go_wp2
  exact bodyPost_ret (v := valV (3, 0, e0)) (by simp [results, Tryz.results99, go_sem]) rfl ⟨rfl, ((Below.refl _ _).alloc (Nat.le_refl _) _).alloc (by simp) _⟩
 ·have hk : (k == 6) = false := by simpa using h
  have e : Veil (keyT (k, n, s) = (k, n, s)) := ⟨if_neg h⟩
  clear h
  go_enter Tryz.func99, Tryz.ntmps99
  go_wp2
  exact bodyPost_ret (v := valV (k, n, s)) (by simp [results, Tryz.results99, go_sem]) rfl ⟨by rw [e.out], ((Below.refl _ _).alloc (Nat.le_refl _) _).alloc (by simp) _⟩
def mixR (h x : Int) : Int := bits .xor .u32 h x * 16777619 % 4294967296
theorem mix_any (h x : Int) (w : World) : Calls Tryz.prog 178 #[.int .u32 h, .int .u32 x] w fun e w' => e = .returned (.int .u32 (mixR h x)) /\ w = w' := by
 go_enter Tryz.func178, Tryz.ntmps178
 go_wp2
 go_ret
 exact ⟨rfl, rfl⟩
def hashB (h : Int) (l : List UInt8) : Int := l.foldl (fun h b => mixR h ((b.toNat : Int) % 4294967296)) h
theorem hashB_snoc (h : Int) (l : List UInt8) (b : UInt8) : hashB h (l ++ [b]) = mixR (hashB h l) ((b.toNat : Int) % 4294967296) := by simp [hashB]
def hash0 (k n : Int) : Int := mixR (mixR (mixR 2166136261 (k % 4294967296)) (n % 4294967296)) (n / 4294967296 % 4294967296)
def hashR (k n : Int) (s : ByteArray) : Int := bits .xor .u32 (hashB (hash0 k n) s.data.toList) (hashB (hash0 k n) s.data.toList / 32768)
theorem take_snoc8 (s : ByteArray) (k : Nat) (h : k < s.size) : s.data.toList.take (k + 1) = s.data.toList.take k ++ [s[k]] := by
 rw [List.take_succ_eq_append_getElem (by simpa using h)]; rfl
theorem hash_any (k n k' n' : Int) (s s' : ByteArray) (hs : s'.size <= 1000000) (hkey : ∀ w, Calls Tryz.prog 99 #[V3 k n s] w fun e w' => e = .returned (V3 k' n' s') /\ Below w.heap.size w w') (w : World) :
  Calls Tryz.prog 150 #[V3 k n s] w fun e w' => e = .returned (.int .u32 (hashR k' n' s')) /\ Below w.heap.size w w' := by
 have HM := Veil.mk mix_any
 have hbox := Box.new w 28 #[.int .i64 k, .int .i64 n, .string s]
 have hB0 : Below w.heap.size w (w.alloc (.cells #[.int .i64 k, .int .i64 n, .string s] 28)) := (Below.refl _ _).alloc (Nat.le_refl _) _
 go_enter Tryz.func150, Tryz.ntmps150
 go_upto_region 2 with (first | (go_at_call 99; ((with_reducible refine (hkey _).mono ?_); rintro e w1 ⟨rfl, hb1⟩; have bx := hbox.on hb1 hbox.lt; have c0 : w1.cell? ⟨w.heap.size, 0, none⟩ = some (.int .i64 k) := bx.at_ 0; have c1 : w1.cell? ⟨w.heap.size, 1, none⟩ = some (.int .i64 n) := bx.at_ 1; have c2 : w1.cell? ⟨w.heap.size, 2, none⟩ = some (.string s) := bx.at_ 2; have g0 := bx.free 0; have g1 := bx.free 1; have g2 := bx.free 2)))
 obtain ⟨W2, hW2⟩ : ∃ W2, W2 = ((w1.setCell ⟨w.heap.size, 0, none⟩ (.int .i64 k')).setCell ⟨w.heap.size, 1, none⟩ (.int .i64 n')).setCell ⟨w.heap.size, 2, none⟩ (.string s') := ⟨_, rfl⟩
 have bx2 : Box W2 w.heap.size 28 #[.int .i64 k', .int .i64 n', .string s'] := by rw [hW2]; exact ((bx.put 0 _).put 1 _).put 2 _
 have hB2 : Below w.heap.size w W2 := by
  rw [hW2]
  exact (((hB0.trans (hb1.mono hB0.size)).setCell (p := ⟨w.heap.size, 0, none⟩) (Nat.le_refl _) _).setCell (p := ⟨w.heap.size, 1, none⟩) (Nat.le_refl _) _).setCell (p := ⟨w.heap.size, 2, none⟩) (Nat.le_refl _) _
 rw [<- hW2]
 have x0 : W2.cell? ⟨w.heap.size, 0, none⟩ = some (.int .i64 k') := bx2.at_ 0
 have x1 : W2.cell? ⟨w.heap.size, 1, none⟩ = some (.int .i64 n') := bx2.at_ 1
 have x2 : W2.cell? ⟨w.heap.size, 2, none⟩ = some (.string s') := bx2.at_ 2
 clear hW2 c0 c1 c2 g0 g1 g2 bx hb1 hbox hB0 bx2
 go_wp2_with (first | (go_at_call 178; ((with_reducible refine (HM.out _ _ _).mono ?_); rintro e w' ⟨rfl, rfl⟩)))
 have HH : Hid (hash0 k' n' = hash0 k' n') := rfl
 obtain ⟨h0, hh0⟩ : ∃ h, h = hash0 k' n' := ⟨_, rfl⟩
 have hh1 : mixR (mixR (mixR 2166136261 (k' % 4294967296)) (n' % 4294967296)) (n' / 4294967296 % 4294967296) = h0 := hh0.symm
 rw [hh1]
 have H0 := Veil.mk hh0
 clear hh0 hh1 HH
 go_loop [3, 26] (fun h i => ∃ j : Nat, j <= s'.size /\ i = .int .i64 (j : Int) /\ h = .int .u32 (hashB h0 (s'.data.toList.take j))) (fun _ i => s'.size - (intOf i).toNat)
 case atStart => exact ⟨0, Nat.zero_le _, rfl, rfl⟩
 case round =>
  obtain ⟨j, hj, rfl, rfl⟩ := hrel
  by_cases hp : j < s'.size
  ·have HT : Veil (hashB h0 (s'.data.toList.take (j + 1)) = mixR (hashB h0 (s'.data.toList.take j)) ((s'[j].toNat : Int) % 4294967296)) := ⟨by rw [take_snoc8 s' j hp, hashB_snoc]⟩
   have hj0 : (0 : Int) <= (j : Int) := by omega
   have hj1 : (j : Int) < (s'.size : Int) := by omega
   go_wp2_with (first | (go_at_call 178; ((with_reducible refine (HM.out _ _ _).mono ?_); rintro e w' ⟨rfl, rfl⟩)))
   go_round
   case rel => exact ⟨j + 1, by omega, by go_num, by rw [HT.out]⟩
   case measure => simp [intOf]; omega
  ·have hj1 : ¬ (j : Int) < (s'.size : Int) := by omega
   have hfin : Veil (hashR k' n' s' = bits .xor .u32 (hashB h0 (s'.data.toList.take j)) (hashB h0 (s'.data.toList.take j) / 32768)) := ⟨by
    rw [List.take_of_length_le (by simp; omega)]; unfold hashR; rw [H0.out]⟩
   obtain ⟨hv, hhv⟩ : ∃ v, v = hashB h0 (s'.data.toList.take j) := ⟨_, rfl⟩
   rw [<- hhv] at hfin ⊢
   clear hp hhv
   go_wp2
   go_ret
   exact ⟨by rw [hfin.out]; rfl, hB2⟩
theorem keyT_twice (x : Vt) : keyT (keyT x) = keyT x := by
 unfold keyT
 split <;> rfl
theorem keyT_size (x : Vt) (h : x.2.2.size <= 1000000) : (keyT x).2.2.size <= 1000000 := by
 unfold keyT
 split
 ·exact Nat.zero_le _
 ·exact h
def hashT (x : Vt) : Int := hashR (keyT x).1 (keyT x).2.1 (keyT x).2.2
theorem hashT_any (x : Vt) (hs : x.2.2.size <= 1000000) (w : World) :
  Calls Tryz.prog 150 #[valV x] w fun e w' => e = .returned (.int .u32 (hashT x)) /\ Below w.heap.size w w' :=
 hash_any x.1 x.2.1 (keyT x).1 (keyT x).2.1 x.2.2 (keyT x).2.2 (keyT_size x hs) (fun w => key_any x w) w
structure Sl where
 key : Vt
 val : Vt
 fl : Int
 live : Bool
 next : Nat
def lastR : List Nat -> Nat -> Nat
 | [], _ => 0
 | x :: r, h => if x = h then r.length + 1 else lastR r h
def lastB (hs : List Nat) (h : Nat) : Nat := lastR hs.reverse h
theorem lastB_nil (h : Nat) : lastB [] h = 0 := rfl
theorem lastB_snoc (hs : List Nat) (x h : Nat) : lastB (hs ++ [x]) h = if x = h then hs.length + 1 else lastB hs h := by
 unfold lastB
 rw [List.reverse_append]
 show (if x = h then hs.reverse.length + 1 else lastR hs.reverse h) = _
 rw [List.length_reverse]
theorem lastR_le : ∀ (l : List Nat) (h : Nat), lastR l h <= l.length
 | [], _ => Nat.le_refl _
 | x :: r, h => by
  unfold lastR
  split
  ·simp
  ·have := lastR_le r h; simp; omega
theorem lastB_le (hs : List Nat) (h : Nat) : lastB hs h <= hs.length := by
 have := lastR_le hs.reverse h
 rw [List.length_reverse] at this
 exact this
theorem lastB_zero : ∀ (n : Nat) (hs : List Nat) (h : Nat), hs.length = n -> lastB hs h = 0 -> ∀ j : Nat, hs[j]? ≠ some h
 | 0, hs, h, hn, _, j => by
  have : hs = [] := List.eq_nil_of_length_eq_zero hn
  subst this; simp
 | n + 1, hs, h, hn, h0, j => by
  obtain ⟨l, x, rfl⟩ : ∃ l x, hs = l ++ [x] := ⟨hs.dropLast, hs.getLast (by intro e; subst e; simp at hn), (List.dropLast_concat_getLast _).symm⟩
  rw [lastB_snoc] at h0
  split at h0
  ·omega
  ·rename_i hx
   have hl : l.length = n := by simp at hn; omega
   by_cases hj : j < l.length
   ·rw [List.getElem?_append_left hj]; exact lastB_zero n l h hl h0 j
   ·rw [List.getElem?_append_right (by omega)]
    by_cases hj2 : j = l.length
    ·subst hj2; simp; exact hx
    ·rw [List.getElem?_eq_none (by simp; omega)]; simp
theorem lastB_some : ∀ (n : Nat) (hs : List Nat) (h p : Nat), hs.length = n -> lastB hs h = p + 1 -> hs[p]? = some h /\ ∀ j : Nat, p < j -> hs[j]? ≠ some h
 | 0, hs, h, p, hn, h0 => by
  have : hs = [] := List.eq_nil_of_length_eq_zero hn
  subst this; simp [lastB_nil] at h0
 | n + 1, hs, h, p, hn, h0 => by
  obtain ⟨l, x, rfl⟩ : ∃ l x, hs = l ++ [x] := ⟨hs.dropLast, hs.getLast (by intro e; subst e; simp at hn), (List.dropLast_concat_getLast _).symm⟩
  have hl : l.length = n := by simp at hn; omega
  rw [lastB_snoc] at h0
  split at h0
  ·rename_i hx
   subst hx
   obtain rfl : l.length = p := by omega
   refine ⟨by simp, fun j hj => ?_⟩
   rw [List.getElem?_eq_none (by simp; omega)]; simp
  ·rename_i hx
   obtain ⟨h1, h2⟩ := lastB_some n l h p hl h0
   have hp := (List.getElem?_eq_some_iff.1 h1).1
   refine ⟨by rw [List.getElem?_append_left hp]; exact h1, fun j hj => ?_⟩
   by_cases hj1 : j < l.length
   ·rw [List.getElem?_append_left hj1]; exact h2 j hj
   ·rw [List.getElem?_append_right (by omega)]
    by_cases hj2 : j = l.length
    ·subst hj2; simp; exact hx
    ·rw [List.getElem?_eq_none (by simp; omega)]; simp
def Found (sl : List Sl) (k : Vt) (i : Nat) : Prop := ∃ s, sl[i]? = some s /\ s.live = true /\ s.key = k
def bucketOf (nb : Nat) (k : Vt) : Nat := (hashT k).toNat % nb
structure Tab where
 sl : List Sl
 hs : List Nat
 nb : Nat
 cnt : Nat
 cur : List (Nat × Nat)
structure Inv (T : Tab) : Prop where
 hlen : T.hs.length = T.sl.length
 nb : T.nb = 0 \/ ∃ j : Nat, 1 <= j /\ j <= 30 /\ T.nb = 2 ^ j
 cap : T.sl.length <= T.nb
 next : ∀ (i : Nat) s h, T.sl[i]? = some s -> T.hs[i]? = some h -> s.next = lastB (T.hs.take i) h
 live : ∀ (i : Nat) s, T.sl[i]? = some s -> s.live = true -> T.hs[i]? = some (bucketOf T.nb s.key) /\ keyT s.key = s.key /\ s.key.2.2.size <= 1000
 uniq : ∀ (i j : Nat) s t, T.sl[i]? = some s -> T.sl[j]? = some t -> s.live = true -> t.live = true -> s.key = t.key -> i = j
 cnt : T.cnt = (T.sl.filter (fun s => s.live)).length
 hlt : ∀ h ∈ T.hs, h < T.nb
def Seek (T : Tab) (k : Vt) (p m : Nat) : Prop := m <= T.sl.length /\ p = lastB (T.hs.take m) (bucketOf T.nb k) /\ ∀ j, m <= j -> ¬ Found T.sl k j
theorem Seek.first (T : Tab) (h : Inv T) (k : Vt) : Seek T k (lastB T.hs (bucketOf T.nb k)) T.sl.length := by
 refine ⟨Nat.le_refl _, by rw [<- h.hlen, List.take_length], fun j hj ⟨s, hs, _⟩ => ?_⟩
 have := (List.getElem?_eq_some_iff.1 hs).1
 omega
theorem take_at {l : List Nat} {m j : Nat} (hj : j < m) : (l.take m)[j]? = l[j]? := by rw [List.getElem?_take, if_pos hj]
theorem Seek.none {T : Tab} {k : Vt} {m : Nat} (h : Inv T) (hs : Seek T k 0 m) : ∀ j, ¬ Found T.sl k j := fun j hf => by
 by_cases hj : m <= j
 ·exact hs.2.2 j hj hf
 ·obtain ⟨s, h1, h2, h3⟩ := hf
  obtain ⟨h4, _, _⟩ := h.live j s h1 h2
  have := lastB_zero _ (T.hs.take m) _ rfl hs.2.1.symm j
  rw [take_at (by omega), h4, h3] at this
  exact this rfl
theorem Seek.at_ {T : Tab} {k : Vt} {p m : Nat} (h : Inv T) (hs : Seek T k (p + 1) m) : p < m /\ p < T.sl.length /\ ∃ s, T.sl[p]? = some s /\ s.next = lastB (T.hs.take p) (bucketOf T.nb k) /\ (∀ j, p < j -> ¬ Found T.sl k j) := by
 obtain ⟨h1, h2⟩ := lastB_some _ (T.hs.take m) _ p rfl hs.2.1.symm
 have hp : p < m := by
  have := (List.getElem?_eq_some_iff.1 h1).1
  rw [List.length_take] at this; omega
 rw [take_at hp] at h1
 have hpl : p < T.sl.length := by have := hs.1; omega
 refine ⟨hp, hpl, T.sl[p], List.getElem?_eq_getElem hpl, h.next p _ _ (List.getElem?_eq_getElem hpl) h1, fun j hj hf => ?_⟩
 by_cases hjm : m <= j
 ·exact hs.2.2 j hjm hf
 ·obtain ⟨s, g1, g2, g3⟩ := hf
  obtain ⟨g4, _, _⟩ := h.live j s g1 g2
  have := h2 j hj
  rw [take_at (by omega), g4, g3] at this
  exact this rfl
theorem Seek.next {T : Tab} {k : Vt} {p m : Nat} {s : Sl} (h : Inv T) (hs : Seek T k (p + 1) m) (hp : T.sl[p]? = some s) (hn : ¬ (s.live = true /\ s.key = k)) : Seek T k s.next p := by
 obtain ⟨h1, h2, s', h3, h4, h5⟩ := hs.at_ h
 rw [hp] at h3
 cases h3
 refine ⟨by omega, h4, fun j hj hf => ?_⟩
 by_cases e : j = p
 ·subst e
  obtain ⟨t, g1, g2, g3⟩ := hf
  rw [hp] at g1; cases g1
  exact hn ⟨g2, g3⟩
 ·exact h5 j (by omega) hf
/-! more -/
theorem snoc_ind {α : Type} {P : List α -> Prop} (h0 : P []) (h1 : ∀ l x, P l -> P (l ++ [x])) : ∀ l, P l := fun l => by
 have : ∀ r : List α, P r.reverse := fun r => by
  induction r with
  | nil => exact h0
  | cons x r ih => rw [List.reverse_cons]; exact h1 _ _ ih
 have h := this l.reverse
 rwa [List.reverse_reverse] at h
def addT (T : Tab) (s : Sl) : Tab := { T with sl := T.sl ++ [{ s with next := lastB T.hs (bucketOf T.nb s.key) }], hs := T.hs ++ [bucketOf T.nb s.key] }
structure Pre (T : Tab) : Prop where
 hlen : T.hs.length = T.sl.length
 nb : T.nb = 0 \/ ∃ j : Nat, 1 <= j /\ j <= 30 /\ T.nb = 2 ^ j
 next : ∀ (i : Nat) s h, T.sl[i]? = some s -> T.hs[i]? = some h -> s.next = lastB (T.hs.take i) h
 live : ∀ (i : Nat) s, T.sl[i]? = some s -> s.live = true -> T.hs[i]? = some (bucketOf T.nb s.key) /\ keyT s.key = s.key /\ s.key.2.2.size <= 1000
 uniq : ∀ (i j : Nat) s t, T.sl[i]? = some s -> T.sl[j]? = some t -> s.live = true -> t.live = true -> s.key = t.key -> i = j
 hlt : ∀ h ∈ T.hs, h < T.nb
theorem Inv.pre {T : Tab} (h : Inv T) : Pre T := ⟨h.hlen, h.nb, h.next, h.live, h.uniq, h.hlt⟩
theorem Pre.inv {T : Tab} (h : Pre T) (hc : T.sl.length <= T.nb) (hn : T.cnt = (T.sl.filter (fun s => s.live)).length) : Inv T := ⟨h.hlen, h.nb, hc, h.next, h.live, h.uniq, hn, h.hlt⟩
theorem bucketOf_lt {nb : Nat} (k : Vt) (h : 0 < nb) : bucketOf nb k < nb := Nat.mod_lt _ h
theorem get_snoc {α : Type} {l : List α} {x y : α} {i : Nat} (h : (l ++ [x])[i]? = some y) : l[i]? = some y /\ i < l.length \/ i = l.length /\ y = x := by
 by_cases hi : i < l.length
 ·rw [List.getElem?_append_left hi] at h; exact .inl ⟨h, hi⟩
 ·rw [List.getElem?_append_right (by omega)] at h
  by_cases e : i = l.length
  ·subst e; simp at h; exact .inr ⟨rfl, h.symm⟩
  ·rw [List.getElem?_eq_none (by simp; omega)] at h; cases h
theorem Pre.add {T : Tab} (h : Pre T) (s : Sl) (hnb : 0 < T.nb) (hl : s.live = true -> keyT s.key = s.key /\ s.key.2.2.size <= 1000 /\ ∀ j, ¬ Found T.sl s.key j) : Pre (addT T s) := by
 have hle := h.hlen
 refine ⟨by simp [addT, hle], h.nb, ?_, ?_, ?_, ?_⟩
 ·intro i x b hx hb
  rcases get_snoc hx with ⟨hx, hi⟩ | ⟨rfl, rfl⟩
  ·rcases get_snoc hb with ⟨hb, _⟩ | ⟨rfl, _⟩
   ·show x.next = lastB ((T.hs ++ [_]).take i) b
    rw [List.take_append_of_le_length (by omega)]
    exact h.next i x b hx hb
   ·omega
  ·rcases get_snoc hb with ⟨_, hi⟩ | ⟨_, rfl⟩
   ·omega
   ·show lastB T.hs _ = lastB ((T.hs ++ [_]).take T.sl.length) _
    rw [List.take_append_of_le_length (by omega), <- hle, List.take_length]
 ·intro i x hx hlv
  rcases get_snoc hx with ⟨hx, hi⟩ | ⟨rfl, rfl⟩
  ·obtain ⟨h1, h2⟩ := h.live i x hx hlv
   exact ⟨by show (T.hs ++ [_])[i]? = _; rw [List.getElem?_append_left (by omega)]; exact h1, h2⟩
  ·obtain ⟨h1, h2, _⟩ := hl hlv
   exact ⟨by show (T.hs ++ [_])[T.sl.length]? = _; rw [<- hle]; simp [addT], h1, h2⟩
 ·intro i j x y hx hy hlx hly e
  rcases get_snoc hx with ⟨hx, hi⟩ | ⟨rfl, rfl⟩
  ·rcases get_snoc hy with ⟨hy, hj⟩ | ⟨rfl, rfl⟩
   ·exact h.uniq i j x y hx hy hlx hly e
   ·exact absurd ⟨x, hx, hlx, e⟩ ((hl hly).2.2 i)
  ·rcases get_snoc hy with ⟨hy, hj⟩ | ⟨rfl, rfl⟩
   ·exact absurd ⟨y, hy, hly, e.symm⟩ ((hl hlx).2.2 j)
   ·rfl
 ·intro b hb
  rcases List.mem_append.1 hb with hb | hb
  ·exact h.hlt b hb
  ·simp at hb; subst hb; exact bucketOf_lt _ hnb
theorem Pre.set {T : Tab} (h : Pre T) (i : Nat) (s s' : Sl) (cnt : Nat) (hs : T.sl[i]? = some s) (hn : s'.next = s.next) (hl : s'.live = true -> s.live = true /\ s'.key = s.key) : Pre { T with sl := T.sl.set i s', cnt := cnt } := by
 have key : ∀ (j : Nat) x, (T.sl.set i s')[j]? = some x -> ∃ y, T.sl[j]? = some y /\ x.next = y.next /\ (x.live = true -> y.live = true /\ x.key = y.key) := fun j x hx => by
  by_cases e : i = j
  ·subst e
   rw [List.getElem?_set_self (List.getElem?_eq_some_iff.1 hs).1] at hx
   cases hx
   exact ⟨s, hs, hn, hl⟩
  ·rw [List.getElem?_set_ne e] at hx
   exact ⟨x, hx, rfl, fun h => ⟨h, rfl⟩⟩
 refine ⟨by simp [h.hlen], h.nb, ?_, ?_, ?_, h.hlt⟩
 ·intro j x b hx hb
  obtain ⟨y, h1, h2, _⟩ := key j x hx
  rw [h2]; exact h.next j y b h1 hb
 ·intro j x hx hlv
  obtain ⟨y, h1, _, h3⟩ := key j x hx
  obtain ⟨h4, h5⟩ := h3 hlv
  rw [h5]; exact h.live j y h1 h4
 ·intro j m x z hx hz hlx hlz e
  obtain ⟨y, h1, _, h3⟩ := key j x hx
  obtain ⟨y', h1', _, h3'⟩ := key m z hz
  exact h.uniq j m y y' h1 h1' (h3 hlx).1 (h3' hlz).1 (by rw [<- (h3 hlx).2, <- (h3' hlz).2, e])
def buildT (nb : Nat) (cur : List (Nat × Nat)) (cnt : Nat) (l : List Sl) : Tab := l.foldl addT { sl := [], hs := [], nb := nb, cnt := cnt, cur := cur }
theorem buildT_snoc (nb : Nat) (cur : List (Nat × Nat)) (cnt : Nat) (l : List Sl) (s : Sl) : buildT nb cur cnt (l ++ [s]) = addT (buildT nb cur cnt l) s := by simp [buildT]
theorem buildT_same (nb : Nat) (cur : List (Nat × Nat)) (cnt : Nat) : ∀ l, (buildT nb cur cnt l).nb = nb /\ (buildT nb cur cnt l).cnt = cnt /\ (buildT nb cur cnt l).cur = cur /\ (buildT nb cur cnt l).sl.map (fun s => (s.key, s.val, s.fl, s.live)) = l.map (fun s => (s.key, s.val, s.fl, s.live)) := by
 refine snoc_ind ⟨rfl, rfl, rfl, rfl⟩ (fun l x ⟨h1, h2, h3, h4⟩ => ?_)
 rw [buildT_snoc]
 exact ⟨h1, h2, h3, by simp [addT, h4]⟩
theorem buildT_len (nb : Nat) (cur : List (Nat × Nat)) (cnt : Nat) (l : List Sl) : (buildT nb cur cnt l).sl.length = l.length := by
 have := congrArg List.length (buildT_same nb cur cnt l).2.2.2
 simpa using this
theorem buildT_pre (nb : Nat) (cur : List (Nat × Nat)) (cnt : Nat) (hnb : ∃ j : Nat, 1 <= j /\ j <= 30 /\ nb = 2 ^ j) : ∀ l : List Sl, (∀ s ∈ l, s.live = true /\ keyT s.key = s.key /\ s.key.2.2.size <= 1000) ->
  (∀ (i j : Nat) s t, l[i]? = some s -> l[j]? = some t -> s.key = t.key -> i = j) -> Pre (buildT nb cur cnt l) := by
 have hpos : 0 < nb := by obtain ⟨j, _, _, rfl⟩ := hnb; exact Nat.two_pow_pos j
 refine snoc_ind (fun _ _ => ⟨rfl, .inr hnb, fun i s h hi => by simp [buildT] at hi, fun i s hi => by simp [buildT] at hi, fun i j s t hi => by simp [buildT] at hi, fun h hh => by simp [buildT] at hh⟩) (fun l x ih hl hu => ?_)
 rw [buildT_snoc]
 obtain ⟨e1, _, _, e4⟩ := buildT_same nb cur cnt l
 have hp := ih (fun s hs => hl s (List.mem_append_left _ hs)) (fun i j s t hi hj e => hu i j s t (by rw [List.getElem?_append_left (List.getElem?_eq_some_iff.1 hi).1]; exact hi) (by rw [List.getElem?_append_left (List.getElem?_eq_some_iff.1 hj).1]; exact hj) e)
 refine hp.add x (by rw [e1]; exact hpos) (fun _ => ?_)
 obtain ⟨_, h2, h3⟩ := hl x (by simp)
 refine ⟨h2, h3, fun j ⟨s, hs, _, hk⟩ => ?_⟩
 have h4 : ((buildT nb cur cnt l).sl.map (fun s => (s.key, s.val, s.fl, s.live)))[j]? = some (s.key, s.val, s.fl, s.live) := by rw [List.getElem?_map, hs]; rfl
 rw [e4, List.getElem?_map] at h4
 obtain ⟨s', hs', e⟩ := Option.map_eq_some_iff.1 h4
 have hj := (List.getElem?_eq_some_iff.1 hs').1
 have := hu j l.length s' x (by rw [List.getElem?_append_left hj]; exact hs') (by simp) (by have := congrArg (fun z => z.1) e; simp at this; rw [this]; exact hk)
 omega
def ent (s : Sl) : Vt × Vt × Int := (s.key, s.val, s.fl)
def ents (l : List Sl) : List (Vt × Vt × Int) := (l.filter (fun s => s.live)).map ent
def slCells (s : Sl) : List Value := [.int .i64 s.key.1, .int .i64 s.key.2.1, .string s.key.2.2, .int .i64 s.val.1, .int .i64 s.val.2.1, .string s.val.2.2, .int .i64 s.fl, .bool s.live, .int .i64 (s.next : Int)]
def slFlat (l : List Sl) : List Value := l.flatMap slCells
def bucketC (T : Tab) : List Value := (List.range T.nb).map fun b => .int .i64 (lastB T.hs b : Int)
def curC (l : List (Nat × Nat)) : List Value := l.map fun c => .pointer (some ⟨c.1, 0, none⟩)
theorem old_cells {W w1 : World} (hb : Below W.heap.size W w1) : (∀ b o, b < W.heap.size -> w1.cell? ⟨b, o, none⟩ = W.cell? ⟨b, o, none⟩) /\ (∀ b o, b < W.heap.size -> w1.frozen? ⟨b, o, none⟩ = W.frozen? ⟨b, o, none⟩) :=
 ⟨fun b o h => hb.cell (p := ⟨b, o, none⟩) h, fun b o h => hb.frozen (p := ⟨b, o, none⟩) h⟩
structure TabAt (w : World) (B t : Nat) (T : Tab) (vs vb vc : Value) : Prop where
 box : Box w t 177 #[vs, vb, .int .i64 (T.cnt : Int), vc]
 os : w.ownsRow B 182 9 vs T.sl.length (slFlat T.sl)
 ob : w.ownsRow B 3 1 vb T.nb (bucketC T)
 oc : w.ownsRow B 58 1 vc T.cur.length (curC T.cur)
 cs : ∀ (i : Nat) c, T.cur[i]? = some c -> B <= c.1 /\ Box w c.1 179 #[.pointer (some ⟨t, 0, none⟩), .int .i64 (c.2 : Int), .int .i64 (i : Int)]
 bt : B <= t
def Foot (t : Nat) (T : Tab) (vs vb vc : Value) (k : Nat) : Prop := k = t \/ vs.ownBlock = some k \/ vb.ownBlock = some k \/ vc.ownBlock = some k \/ ∃ c ∈ T.cur, c.1 = k
theorem TabAt.touch {w w' : World} {B t : Nat} {T : Tab} {vs vb vc : Value} {S : Nat -> Prop} (h : TabAt w B t T vs vb vc) (ht : Touch S w w') (hn : ∀ k, Foot t T vs vb vc k -> ¬ S k) : TabAt w' B t T vs vb vc :=
 ⟨h.box.touch ht (hn t (.inl rfl)), own_touch h.os ht (fun k hk => hn k (.inr (.inl hk))), own_touch h.ob ht (fun k hk => hn k (.inr (.inr (.inl hk)))), own_touch h.oc ht (fun k hk => hn k (.inr (.inr (.inr (.inl hk))))),
  fun i c hc => ⟨(h.cs i c hc).1, (h.cs i c hc).2.touch ht (hn c.1 (.inr (.inr (.inr (.inr ⟨c, List.mem_of_getElem? hc, rfl⟩)))))⟩, h.bt⟩
theorem TabAt.on {w w' : World} {B t : Nat} {T : Tab} {vs vb vc : Value} (h : TabAt w B t T vs vb vc) (hb : Below w.heap.size w w') : TabAt w' B t T vs vb vc := h.touch (S := fun _ => False) (Touch.of_below hb) (fun _ _ h => h)
theorem and_mask (j : Nat) (hj : j <= 30) (n : Int) (h0 : 0 <= n) (h1 : n < 4294967296) : bits .and .i64 n (((2 ^ j : Nat) : Int) - 1) = ((n.toNat % 2 ^ j : Nat) : Int) := by
 have := bits_mask .i64 62 (by decide) (fun n h0 h1 => IntWalk.i64_in _ (by omega)) j (by omega) n h0 (by omega)
 rw [show ((2 ^ j : Nat) : Int) = (2 : Int) ^ j by simp, this]
 obtain ⟨a, rfl⟩ := Int.eq_ofNat_of_zero_le h0
 simp
theorem hash_range (x : Vt) : 0 <= hashT x /\ hashT x < 4294967296 := by
 unfold hashT hashR
 generalize hashB _ _ = a
 show 0 <= IntKind.u32.wrap _ /\ IntKind.u32.wrap _ < _
 rw [IntKind.wrap_u32]
 omega
theorem bucket_any (t nb cap : Nat) (ao : Option Addr) (a b d : Value) (j : Nat) (hj : j <= 30) (hnb : nb = 2 ^ j) (k : Vt) (hk : k.2.2.size <= 1000) (w : World) (hB : Box w t 177 #[a, .slice ao nb cap, b, d]) :
  Calls Tryz.prog 129 #[.pointer (some ⟨t, 0, none⟩), valV k] w fun e w' => e = .returned (.int .i64 (bucketOf nb k : Int)) /\ Below w.heap.size w w' := by
 have hlt := hB.lt
 have hbx := Box.new w 28 #[.int .i64 k.1, .int .i64 k.2.1, .string k.2.2]
 have hc1 : (w.alloc (.cells #[.int .i64 k.1, .int .i64 k.2.1, .string k.2.2] 28)).cell? ⟨t, 1, none⟩ = some (.slice ao nb cap) := (hB.more _).at_ 1
 have HH := Veil.mk (fun w => hashT_any k (by omega) w)
 obtain ⟨r1, r2⟩ := hash_range k
 have HM := Veil.mk (and_mask j hj (hashT k) r1 r2)
 have HU : Veil (bucketOf nb k = (hashT k).toNat % 2 ^ j) := ⟨by unfold bucketOf; rw [hnb]⟩
 obtain ⟨h, hh⟩ : ∃ h, h = hashT k := ⟨_, rfl⟩
 rw [<- hh] at HH HM HU r1 r2
 have hnb2 : nb <= 1073741824 := by rw [hnb]; exact Nat.le_trans (Nat.pow_le_pow_right (by omega) hj) (by decide)
 have hnb3 : 0 < nb := by rw [hnb]; exact Nat.two_pow_pos j
 have s1 : IntKind.i64.wrap h = h := IntWalk.i64_in _ (by omega)
 have s2 : IntKind.i64.wrap ((nb : Int) - 1) = (nb : Int) - 1 := IntWalk.i64_in _ (by omega)
 have hand : bits .and .i64 h ((nb : Int) - 1) = ((bucketOf nb k : Nat) : Int) := by
  rw [HU.out, hnb]; exact HM.out
 obtain ⟨q, hq⟩ : ∃ q, q = bucketOf nb k := ⟨_, rfl⟩
 rw [<- hq] at hand ⊢
 clear hh hq hnb HM HU hk hB
 have x0 := hbx.at_ 0
 have x1 := hbx.at_ 1
 have x2 := hbx.at_ 2
 obtain ⟨W, hW⟩ : ∃ W, W = w.alloc (.cells #[.int .i64 k.1, .int .i64 k.2.1, .string k.2.2] 28) := ⟨_, rfl⟩
 have hBW : Below w.heap.size w W := by rw [hW]; exact (Below.refl _ _).alloc (Nat.le_refl _) _
 have hWs : W.heap.size = w.heap.size + 1 := by rw [hW]; simp
 have HW := Veil.mk hW
 go_enter Tryz.func129, Tryz.ntmps129
 go_wp2
 rw [<- HW.out] at x0 x1 x2 hc1 ⊢
 have l1 : t < W.heap.size := by omega
 have l2 : w.heap.size < W.heap.size := by omega
 clear hW hWs HW
 go_region_held3 (fun w' => w'.cell? ⟨w.heap.size, 0, none⟩ = some (.int .i64 k.1) /\ w'.cell? ⟨w.heap.size, 1, none⟩ = some (.int .i64 k.2.1) /\ w'.cell? ⟨w.heap.size, 2, none⟩ = some (.string k.2.2) /\ w'.cell? ⟨t, 1, none⟩ = some (.slice ao nb cap)) (go_keep) (((with_reducible refine (HH.out _).mono ?_); rintro e w1 ⟨rfl, hb1⟩; have y0 := (old_cells hb1).1 _ 0 l2; have y1 := (old_cells hb1).1 _ 1 l2; have y2 := (old_cells hb1).1 _ 2 l2; have y3 := (old_cells hb1).1 _ 1 l1))
 all_goals
  go_wp2
  go_ret
  exact ⟨rfl, hBW.trans (((Below.refl W.heap.size W).drew.trans hb1).mono hBW.size)⟩
theorem vne {x v : Vt} (h : ¬ x = v) : (¬ v.1 = x.1) \/ (v.1 = x.1 /\ ¬ v.2.1 = x.2.1) \/ (v.1 = x.1 /\ v.2.1 = x.2.1 /\ ¬ v.2.2.toList = x.2.2.toList) := by
 obtain ⟨a, b, c⟩ := x
 obtain ⟨a', b', c'⟩ := v
 by_cases h1 : a' = a
 ·by_cases h2 : b' = b
  ·refine .inr (.inr ⟨h1, h2, fun h3 => h ?_⟩)
   simp only at h3 h1 h2
   rw [ByteArray.toList_eq, ByteArray.toList_eq] at h3
   have : c' = c := by apply ByteArray.ext; apply Array.ext'; exact h3
   rw [h1, h2, this]
  ·exact .inr (.inl ⟨h1, h2⟩)
 ·exact .inl h1
theorem slFlat_at : ∀ (l : List Sl) (i : Nat) (s : Sl), l[i]? = some s -> ∀ c, c < 9 -> (slFlat l)[i * 9 + c]? = (slCells s)[c]?
 | [], i, s, h, c, _ => by simp at h
 | x :: l, 0, s, h, c, hc => by
  simp at h; subst h
  show (slCells x ++ slFlat l)[0 * 9 + c]? = _
  rw [Nat.zero_mul, Nat.zero_add, List.getElem?_append_left (by simpa [slCells] using hc)]
 | x :: l, i + 1, s, h, c, hc => by
  have h' : l[i]? = some s := by simpa using h
  show (slCells x ++ slFlat l)[(i + 1) * 9 + c]? = _
  rw [List.getElem?_append_right (by simp [slCells]; omega), <- slFlat_at l i s h' c hc]
  congr 1
  simp [slCells]; omega
theorem add_off (g j : Nat) : (⟨g, 0, none⟩ : Addr).add j = ⟨g, j, none⟩ := by unfold Addr.add; split <;> simp_all
structure SlotAt (w : World) (g i : Nat) (s : Sl) : Prop where
 k0 : w.cell? ⟨g, i * 9, none⟩ = some (.int .i64 s.key.1)
 k1 : w.cell? ⟨g, i * 9 + 1, none⟩ = some (.int .i64 s.key.2.1)
 k2 : w.cell? ⟨g, i * 9 + 2, none⟩ = some (.string s.key.2.2)
 v0 : w.cell? ⟨g, i * 9 + 3, none⟩ = some (.int .i64 s.val.1)
 v1 : w.cell? ⟨g, i * 9 + 4, none⟩ = some (.int .i64 s.val.2.1)
 v2 : w.cell? ⟨g, i * 9 + 5, none⟩ = some (.string s.val.2.2)
 f : w.cell? ⟨g, i * 9 + 6, none⟩ = some (.int .i64 s.fl)
 l : w.cell? ⟨g, i * 9 + 7, none⟩ = some (.bool s.live)
 n : w.cell? ⟨g, i * 9 + 8, none⟩ = some (.int .i64 (s.next : Int))
theorem TabAt.slot {w : World} {B t g cap n : Nat} {T : Tab} {vb vc : Value} (h : TabAt w B t T (.slice (some ⟨g, 0, none⟩) n cap) vb vc) (i : Nat) (s : Sl) (hs : T.sl[i]? = some s) : SlotAt w g i s := by
 have key : ∀ c u, c < 9 -> (slCells s)[c]? = some u -> w.cell? ⟨g, i * 9 + c, none⟩ = some u := fun c u hc hu => by
  have := h.os.cells (g := g) rfl (i * 9 + c) u (by rw [slFlat_at T.sl i s hs c hc]; exact hu)
  rwa [add_off] at this
 exact ⟨key 0 _ (by omega) rfl, key 1 _ (by omega) rfl, key 2 _ (by omega) rfl, key 3 _ (by omega) rfl, key 4 _ (by omega) rfl, key 5 _ (by omega) rfl, key 6 _ (by omega) rfl, key 7 _ (by omega) rfl, key 8 _ (by omega) rfl⟩
theorem TabAt.bcell {w : World} {B t g cap n : Nat} {T : Tab} {vs vc : Value} (h : TabAt w B t T vs (.slice (some ⟨g, 0, none⟩) n cap) vc) (b : Nat) (hb : b < T.nb) : w.cell? ⟨g, b, none⟩ = some (.int .i64 (lastB T.hs b : Int)) := by
 have := h.ob.cells (g := g) rfl b (.int .i64 (lastB T.hs b : Int)) (by unfold bucketC; rw [List.getElem?_map, List.getElem?_range hb]; rfl)
 rwa [add_off] at this
theorem below_drew1 (W : World) : Below W.heap.size W W.drew := (Below.refl _ W).drew
def FindPost (T : Tab) (k : Vt) (w : World) (e : Ending) (w' : World) : Prop := ∃ r : Int, e = .returned (.int .i64 r) /\ ((∃ i : Nat, r = (i : Int) /\ Found T.sl k i) \/ (r = -1 /\ ∀ i, ¬ Found T.sl k i)) /\ Below w.heap.size w w'
theorem find_empty (t cap : Nat) (ao : Option Addr) (a b d : Value) (T : Tab) (h0 : T.sl = []) (k : Vt) (w : World) (hB : Box w t 177 #[a, .slice ao 0 cap, b, d]) :
  Calls Tryz.prog 100 #[.pointer (some ⟨t, 0, none⟩), valV k] w (FindPost T k w) := by
 have hc1 : (w.alloc (.cells #[.int .i64 k.1, .int .i64 k.2.1, .string k.2.2] 28)).cell? ⟨t, 1, none⟩ = some (.slice ao 0 cap) := (hB.more _).at_ 1
 have HF : Veil (FindPost T k w (.returned (.int .i64 (-1))) (w.alloc (.cells #[.int .i64 k.1, .int .i64 k.2.1, .string k.2.2] 28))) := ⟨⟨-1, rfl, .inr ⟨rfl, fun i ⟨s, hs, _⟩ => by rw [h0] at hs; simp at hs⟩, (Below.refl _ _).alloc (Nat.le_refl _) _⟩⟩
 go_enter Tryz.func100, Tryz.ntmps100
 go_wp2
 go_ret
 exact HF.out
theorem find_any (B t : Nat) (T : Tab) (vs vb vc : Value) (hI : Inv T) (hnb : 0 < T.nb) (k : Vt) (hk : k.2.2.size <= 1000) (w : World) (h : TabAt w B t T vs vb vc) :
  Calls Tryz.prog 100 #[.pointer (some ⟨t, 0, none⟩), valV k] w (FindPost T k w) := by
 obtain ⟨j, hj1, hj2, hnj⟩ : ∃ j : Nat, 1 <= j /\ j <= 30 /\ T.nb = 2 ^ j := by
  rcases hI.nb with h | h
  ·omega
  ·exact h
 obtain ⟨ab, cb, rfl, hcb, hgb, hmb⟩ := slice_own h.ob
 obtain ⟨gb, rfl⟩ := hgb hnb
 obtain ⟨sa, cs, rfl, hcs, hgs2, hms⟩ := slice_own h.os
 have hbl := bucketOf_lt k hnb
 have hq0 := h.bcell (bucketOf T.nb k) hbl
 have hnb2 : T.nb <= 1073741824 := by rw [hnj]; exact Nat.le_trans (Nat.pow_le_pow_right (by omega) hj2) (by decide)
 have HB := Veil.mk (fun w hB => bucket_any t T.nb cb (some ⟨gb, 0, none⟩) (.slice sa T.sl.length cs) (.int .i64 (T.cnt : Int)) vc j hj2 hnj k hk w hB)
 have hfirst := Veil.mk (Seek.first T hI k)
 have hll := lastB_le T.hs (bucketOf T.nb k)
 have hlen := hI.hlen
 have hcap := hI.cap
 obtain ⟨q, hq⟩ : ∃ q, q = bucketOf T.nb k := ⟨_, rfl⟩
 obtain ⟨p0, hp0⟩ : ∃ p, p = lastB T.hs q := ⟨_, rfl⟩
 rw [<- hq] at hbl hq0 HB hfirst hll
 rw [<- hp0] at hq0 hfirst hll
 have hp1 : p0 <= 1073741824 := by omega
 have HI := Veil.mk hI
 have hb0 := h.box
 obtain ⟨W, hW⟩ : ∃ W, W = w.alloc (.cells #[.int .i64 k.1, .int .i64 k.2.1, .string k.2.2] 28) := ⟨_, rfl⟩
 have hBW : Below w.heap.size w W := by rw [hW]; exact (Below.refl _ _).alloc (Nat.le_refl _) _
 have hT : TabAt W B t T (.slice sa T.sl.length cs) (.slice (some ⟨gb, 0, none⟩) T.nb cb) vc := h.on hBW
 have hx : Box W w.heap.size 28 #[.int .i64 k.1, .int .i64 k.2.1, .string k.2.2] := by rw [hW]; exact Box.new w _ _
 have HW := Veil.mk hW
 have HTW := Veil.mk hT
 have HX := Veil.mk hx
 have x0 : W.cell? ⟨w.heap.size, 0, none⟩ = some (.int .i64 k.1) := hx.at_ 0
 have x1 : W.cell? ⟨w.heap.size, 1, none⟩ = some (.int .i64 k.2.1) := hx.at_ 1
 have x2 : W.cell? ⟨w.heap.size, 2, none⟩ = some (.string k.2.2) := hx.at_ 2
 have t1 : W.cell? ⟨t, 1, none⟩ = some (.slice (some ⟨gb, 0, none⟩) T.nb cb) := hT.box.at_ 1
 have b1 : W.cell? ⟨gb, q, none⟩ = some (.int .i64 (p0 : Int)) := by
  have := hBW.cell (p := ⟨gb, q, none⟩) (World.block_lt_of_cell? w _ hq0)
  rw [this]; exact hq0
 have l1 : t < W.heap.size := hT.box.lt
 have l2 : w.heap.size < W.heap.size := hx.lt
 have l3 : gb < W.heap.size := World.block_lt_of_cell? W _ b1
 have hTB := Veil.mk (fun W' hb => HB.out W' (hT.box.on (w' := W') (B := W.heap.size) hb hT.box.lt))
 have e1 : ((T.nb : Int) == 0) = false := beq_eq_false_iff_ne.2 (by omega)
 have e2 : (0 : Int) <= (q : Int) := by omega
 have e3 : (q : Int) < (T.nb : Int) := by omega
 have e4 : IntKind.i64.wrap ((p0 : Int) - 1) = (p0 : Int) - 1 := IntWalk.i64_in _ (by omega)
 have tw : (w.alloc (.cells #[.int .i64 k.1, .int .i64 k.2.1, .string k.2.2] 28)).cell? ⟨t, 1, none⟩ = some (.slice (some ⟨gb, 0, none⟩) T.nb cb) := (hb0.more _).at_ 1
 clear h hq0 hq hp0 hW hlen hcap hI hb0 hT hx hbl HB hnj hj1 hj2 hgb
 go_enter Tryz.func100, Tryz.ntmps100
 go_upto_region 3 with (fail)
 rw [<- HW.out]
 have tw1 := trivial
 clear tw
 go_region_held3 (fun w' => w'.cell? ⟨w.heap.size, 0, none⟩ = some (.int .i64 k.1) /\ w'.cell? ⟨w.heap.size, 1, none⟩ = some (.int .i64 k.2.1) /\ w'.cell? ⟨w.heap.size, 2, none⟩ = some (.string k.2.2) /\ w'.cell? ⟨t, 1, none⟩ = some (.slice (some ⟨gb, 0, none⟩) T.nb cb) /\ w'.cell? ⟨gb, q, none⟩ = some (.int .i64 (p0 : Int))) (go_keep) (((with_reducible refine (hTB.out _ (below_drew1 W)).mono ?_); rintro e w1 ⟨rfl, hb1⟩; have y0 := (old_cells hb1).1 _ 0 l2; have y1 := (old_cells hb1).1 _ 1 l2; have y2 := (old_cells hb1).1 _ 2 l2; have y3 := (old_cells hb1).1 _ 1 l1; have y4 := (old_cells hb1).1 _ q l3))
 have hb2 : Below W.heap.size W w1 := (below_drew1 W).trans hb1
 clear y0 y1 y2 y3 y4 hb1 tw1
 go_wp2
 go_loopw [5] (fun i wr => ∃ p m : Nat, i = .int .i64 ((p : Int) - 1) /\ Veil (Seek T k p m) /\ p <= 1073741824 /\ Below W.heap.size W wr) (fun i _ => (intOf i + 1).toNat)
 case atStart => exact ⟨p0, T.sl.length, rfl, hfirst, hp1, hb2⟩
 case round =>
  obtain ⟨p, m, rfl, hs, hp, hbw⟩ := hrel
  clear hb2 hp1 e2 e3 e4
  rcases p with _ | p
  ·have HF : Veil (FindPost T k w (.returned (.int .i64 (-1))) wr) := ⟨⟨-1, rfl, .inr ⟨rfl, hs.out.none HI.out⟩, hBW.trans (hbw.mono hBW.size)⟩⟩
   rw [show ((0 : Nat) : Int) - 1 = -1 from rfl]
   go_wp2
   go_ret
   exact HF.out
  ·obtain ⟨hpm, hpl, s, hsp, hsn, hlow⟩ := hs.out.at_ HI.out
   obtain ⟨gs, rfl⟩ := hgs2 (by omega)
   have hT := HTW.out.on hbw
   have hsl := hT.slot p s hsp
   have hT0 : wr.cell? ⟨t, 0, none⟩ = some (.slice (some ⟨gs, 0, none⟩) T.sl.length cs) := hT.box.at_ 0
   have y0 := (hbw.cell (p := ⟨w.heap.size, 0, none⟩) l2).trans x0
   have y1 := (hbw.cell (p := ⟨w.heap.size, 1, none⟩) l2).trans x1
   have y2 := (hbw.cell (p := ⟨w.heap.size, 2, none⟩) l2).trans x2
   have hnx := lastB_le (T.hs.take p) (bucketOf T.nb k)
   rw [<- hsn, List.length_take] at hnx
   have hnx2 : s.next <= p := by omega
   have HS := Veil.mk (fun hn => hs.out.next HI.out hsp hn)
   have HFD : Veil (s.live = true /\ s.key = k -> FindPost T k w (.returned (.int .i64 (p : Int))) wr) := ⟨fun h => ⟨p, rfl, .inl ⟨p, rfl, s, hsp, h.1, h.2⟩, hBW.trans (hbw.mono hBW.size)⟩⟩
   have HFD1 : Veil (s.live = true /\ s.key = k -> ∀ n, FindPost T k w (.returned (.int .i64 (p : Int))) (wr.drewN n)) := ⟨fun h n => ⟨p, rfl, .inl ⟨p, rfl, s, hsp, h.1, h.2⟩, hBW.trans ((below_drewN hbw n).mono hBW.size)⟩⟩
   rw [show ((p + 1 : Nat) : Int) - 1 = (p : Int) by omega]
   obtain ⟨k0, k1, k2, v0, v1, v2, ff, fl, fn⟩ := hsl
   have i0 : (0 : Int) <= (p : Int) := by omega
   have i1 : (p : Int) < (T.sl.length : Int) := by omega
   have i2 : IntKind.i64.wrap ((s.next : Int) - 1) = (s.next : Int) - 1 := IntWalk.i64_in _ (by omega)
   obtain ⟨⟨sk0, sk1, sk2⟩, sv, sf, sl, sn⟩ := s
   obtain ⟨kk0, kk1, kk2⟩ := k
   dsimp only at k0 k1 k2 fl fn hnx2 HS HFD HFD1 y0 y1 y2 i2
   clear hs hsp hsn hlow hT hnx v0 v1 v2 ff x0 x1 x2 hTB HI
   rcases sl with _ | _
   ·clear HFD HFD1 k0 k1 k2
    go_wp2
    go_quiet (fail)
    go_wp2
    go_roundw
    case rel => exact ⟨sn, p, rfl, ⟨HS.out (fun h => by cases h.1)⟩, by omega, below_drewN hbw _⟩
    case measure => simp [intOf]; omega
   ·by_cases he : ((sk0, sk1, sk2) : Vt) = (kk0, kk1, kk2)
    ·have HF := Veil.mk (HFD1.out ⟨rfl, he⟩)
     cases he
     clear HS HFD HFD1
     go_wp2
     go_quiet (fail)
     go_wp2
     go_ret
     exact HF.out _
    ·have HN : Veil (¬ (true = true /\ ((sk0, sk1, sk2) : Vt) = (kk0, kk1, kk2))) := ⟨fun h => he h.2⟩
     have hne := vne he
     simp only at hne
     clear HFD HFD1 he
     rcases hne with hne | ⟨rfl, hne⟩ | ⟨rfl, rfl, hne⟩
     ·have q1 : (sk0 == kk0) = false := beq_eq_false_iff_ne.2 (fun e => hne e.symm)
      clear hne
      go_wp2
      go_quiet (fail)
      go_wp2
      go_roundw
      case rel => exact ⟨sn, p, rfl, ⟨HS.out HN.out⟩, by omega, below_drewN hbw _⟩
      case measure => simp [intOf]; omega
     ·have q1 : (sk1 == kk1) = false := beq_eq_false_iff_ne.2 (fun e => hne e.symm)
      clear hne
      go_wp2
      go_quiet (fail)
      go_wp2
      go_roundw
      case rel => exact ⟨sn, p, rfl, ⟨HS.out HN.out⟩, by omega, below_drewN hbw _⟩
      case measure => simp [intOf]; omega
     ·have q1 : (sk2.toList == kk2.toList) = false := beq_eq_false_iff_ne.2 (fun e => hne e.symm)
      clear hne
      go_wp2
      go_quiet (fail)
      go_wp2
      go_roundw
      case rel => exact ⟨sn, p, rfl, ⟨HS.out HN.out⟩, by omega, below_drewN hbw _⟩
      case measure => simp [intOf]; omega
abbrev slotV (s : Sl) : Value := .agg #[.int .i64 s.key.1, .int .i64 s.key.2.1, .string s.key.2.2, .int .i64 s.val.1, .int .i64 s.val.2.1, .string s.val.2.2, .int .i64 s.fl, .bool s.live, .int .i64 (s.next : Int)]
theorem Tryz.infoS : (Tryz.prog.info? 182).map (fun i => (i.zero, i.size, i.bytes)) = some (some (.agg #[.int .i64 0, .int .i64 0, .string ⟨#[]⟩, .int .i64 0, .int .i64 0, .string ⟨#[]⟩, .int .i64 0, .bool false, .int .i64 0]), 9, 88) := by kernel_rfl
def TabPost (B t : Nat) (T' : Tab) (F : Nat -> Prop) (w w' : World) : Prop := ∃ vs vb vc, TabAt w' B t T' vs vb vc /\ Touch F w w' /\ ∀ k, Foot t T' vs vb vc k -> F k \/ w.heap.size <= k
theorem bucketC_add (T : Tab) (s : Sl) : bucketC (addT T s) = (bucketC T).set (bucketOf T.nb s.key) (.int .i64 ((T.hs.length + 1 : Nat) : Int)) := by
 apply List.ext_getElem?
 intro i
 unfold bucketC
 rw [List.getElem?_map]
 show Option.map _ ((List.range T.nb)[i]?) = _
 by_cases hi : i < T.nb
 ·rw [List.getElem?_range hi]
  simp only [Option.map_some]
  show some (Value.int .i64 (lastB (T.hs ++ [bucketOf T.nb s.key]) i : Int)) = _
  rw [lastB_snoc]
  by_cases e : bucketOf T.nb s.key = i
  ·rw [if_pos e, e, List.getElem?_set_self (by simpa using hi)]
  ·rw [if_neg e, List.getElem?_set_ne e, List.getElem?_map, List.getElem?_range hi]; rfl
 ·rw [List.getElem?_eq_none (by simp; omega), List.getElem?_eq_none (by simp; omega)]; rfl
theorem slFlat_snoc (l : List Sl) (s : Sl) : slFlat (l ++ [s]) = slFlat l ++ slCells s := by simp [slFlat]
theorem Foot.lt {w : World} {B t : Nat} {T : Tab} {vs vb vc : Value} (h : TabAt w B t T vs vb vc) {k : Nat} (hk : Foot t T vs vb vc k) : B <= k /\ k < w.heap.size := by
 rcases hk with rfl | hk | hk | hk | ⟨c, hc, rfl⟩
 ·exact ⟨h.bt, h.box.lt⟩
 ·exact own_lt h.os k hk
 ·exact own_lt h.ob k hk
 ·exact own_lt h.oc k hk
 ·obtain ⟨i, hi⟩ := List.mem_iff_getElem?.1 hc
  exact ⟨(h.cs i c hi).1, (h.cs i c hi).2.lt⟩
theorem TabPost.drew {B t : Nat} {T : Tab} {F : Nat -> Prop} {w w' : World} (h : TabPost B t T F w w') : TabPost B t T F w w'.drew := by
 obtain ⟨vs, vb, vc, h1, h2, h3⟩ := h
 have ht : Touch (fun _ => False) w' w'.drew := ⟨rfl, rfl, rfl, Nat.le_refl _, fun _ _ _ => rfl⟩
 exact ⟨vs, vb, vc, h1.touch ht (fun _ _ h => h), h2.trans (ht.mono (fun _ h => h.elim)), h3⟩
theorem TabPost.before {B t : Nat} {T : Tab} {F : Nat -> Prop} {w w1 w' : World} (h : TabPost B t T F w1 w') (hb : Below w.heap.size w w1) : TabPost B t T F w w' := by
 obtain ⟨vs, vb, vc, h1, h2, h3⟩ := h
 exact ⟨vs, vb, vc, h1, (Touch.of_below hb).trans h2, fun k hk => (h3 k hk).imp id (fun h => Nat.le_trans hb.size h)⟩
theorem add_done {B t g cap' gb cb q : Nat} {T : Tab} {vs vc : Value} {s : Sl} {W2 w3 : World} (h : TabAt W2 B t T vs (.slice (some ⟨gb, 0, none⟩) T.nb cb) vc) (hq : q = bucketOf T.nb s.key) (hl : T.hs.length = T.sl.length)
  (ht : Touch (fun k => vs.ownBlock = some k) W2 w3) (hown : w3.ownsRow B 182 9 (.slice (some ⟨g, 0, none⟩) (T.sl.length + 1) cap') (T.sl.length + 1) (slFlat T.sl ++ slCells { s with next := lastB T.hs (bucketOf T.nb s.key) })) (hblk : vs.ownBlock = some g \/ W2.heap.size <= g) :
  TabPost B t (addT T s) (Foot t T vs (.slice (some ⟨gb, 0, none⟩) T.nb cb) vc) W2 ((w3.setCell ⟨t, 0, none⟩ (.slice (some ⟨g, 0, none⟩) (T.sl.length + 1) cap')).setCell ⟨gb, q, none⟩ (.int .i64 ((T.sl.length : Int) + 1))) := by
 have lt : Lab W2 t _ := h.box.lab
 have ls := own_lab h.os
 have lb := own_lab h.ob
 have lc := own_lab h.oc
 have h3t : Box w3 t _ _ := h.box.touch ht (fun e => (ls t e).ne lt (by decide) rfl)
 have h3b := own_touch h.ob ht (fun k hk e => (ls k e).ne (lb k hk) (by decide) rfl)
 have h3c := own_touch h.oc ht (fun k hk e => (ls k e).ne (lc k hk) (by decide) rfl)
 have h3k : ∀ (i : Nat) c, T.cur[i]? = some c -> B <= c.1 /\ Box w3 c.1 179 #[.pointer (some ⟨t, 0, none⟩), .int .i64 (c.2 : Int), .int .i64 (i : Int)] := fun i c hc => ⟨(h.cs i c hc).1, (h.cs i c hc).2.touch ht (fun e => (ls c.1 e).ne (h.cs i c hc).2.lab (by decide) rfl)⟩
 have gt : g ≠ t := (own_lab hown g rfl).ne h3t.lab (by decide)
 have gg : g ≠ gb := (own_lab hown g rfl).ne (own_lab h3b gb rfl) (by decide)
 have gbt : gb ≠ t := (own_lab h3b gb rfl).ne h3t.lab (by decide)
 -- the store of the new row
 obtain ⟨W3, hW3⟩ : ∃ W, W = w3.setCell ⟨t, 0, none⟩ (.slice (some ⟨g, 0, none⟩) (T.sl.length + 1) cap') := ⟨_, rfl⟩
 have tp : Touch (fun k => k = t) w3 W3 := by rw [hW3]; exact Touch.put (S := fun k => k = t) rfl 0 _
 have b3 : Box W3 t 177 #[.slice (some ⟨g, 0, none⟩) (T.sl.length + 1) cap', .slice (some ⟨gb, 0, none⟩) T.nb cb, .int .i64 (T.cnt : Int), vc] := by rw [hW3]; exact h3t.put 0 _
 have s3 := own_touch hown tp (fun k hk e => by cases hk; exact gt e)
 have bb3 := own_touch h3b tp (fun k hk e => by cases hk; exact gbt e)
 have c3 := own_touch h3c tp (fun k hk e => ((own_lab h3c k hk).ne h3t.lab (by decide)) e)
 have k3 : ∀ (i : Nat) c, T.cur[i]? = some c -> B <= c.1 /\ Box W3 c.1 179 #[.pointer (some ⟨t, 0, none⟩), .int .i64 (c.2 : Int), .int .i64 (i : Int)] := fun i c hc => ⟨(h3k i c hc).1, (h3k i c hc).2.touch tp (fun e => ((h3k i c hc).2.lab.ne h3t.lab (by decide)) e)⟩
 rw [<- hW3]
 -- the store of the bucket
 have tq : Touch (fun k => k = gb) W3 (W3.setCell ⟨gb, q, none⟩ (.int .i64 ((T.sl.length : Int) + 1))) := Touch.put (S := fun k => k = gb) rfl q _
 refine ⟨.slice (some ⟨g, 0, none⟩) (T.sl.length + 1) cap', .slice (some ⟨gb, 0, none⟩) T.nb cb, vc, ⟨b3.touch tq (fun e => gbt e.symm), ?_, ?_, own_touch c3 tq (fun k hk e => ((own_lab c3 k hk).ne (own_lab bb3 gb rfl) (by decide)) e), fun i c hc => ⟨(k3 i c hc).1, (k3 i c hc).2.touch tq (fun e => ((k3 i c hc).2.lab.ne (own_lab bb3 gb rfl) (by decide)) e)⟩, h.bt⟩, ?_, ?_⟩
 ·have := own_touch s3 tq (fun k hk e => by cases hk; exact gg e)
  show World.ownsRow _ B _ 9 _ (T.sl ++ [_]).length (slFlat (T.sl ++ [_]))
  rw [slFlat_snoc, List.length_append]
  exact this
 ·rw [bucketC_add, <- hq, hl]
  exact own_put bb3 q _
 ·exact ((ht.mono (fun k hk => .inr (.inl hk))).trans (tp.mono (fun k hk => .inl hk))).trans (tq.mono (fun k hk => .inr (.inr (.inl (by rw [hk]; rfl)))))
 ·rintro k (rfl | hk | hk | hk | hk)
  ·exact .inl (.inl rfl)
  ·cases hk
   rcases hblk with hb | hb
   ·exact .inl (.inr (.inl hb))
   ·exact .inr hb
  ·exact .inl (.inr (.inr (.inl hk)))
  ·exact .inl (.inr (.inr (.inr (.inl hk))))
  ·exact .inl (.inr (.inr (.inr (.inr hk))))
theorem add_any (B t : Nat) (T : Tab) (vs vb vc : Value) (j : Nat) (hj : j <= 30) (hnj : T.nb = 2 ^ j) (hlen : T.hs.length = T.sl.length) (hcap : T.sl.length < 100000) (s : Sl) (hk : s.key.2.2.size <= 1000) (w : World) (h : TabAt w B t T vs vb vc) :
  Calls Tryz.prog 102 #[.pointer (some ⟨t, 0, none⟩), slotV s] w fun e w' => e = .returned (.tuple #[]) /\ TabPost B t (addT T s) (Foot t T vs vb vc) w w' := by
 have hnb : 0 < T.nb := by rw [hnj]; exact Nat.two_pow_pos j
 obtain ⟨i0, hi, hz0, hz1, hz2⟩ := info_parts Tryz.infoS
 have hvs := slice_own h.os
 have hvb := slice_own h.ob
 obtain ⟨ab, cb, rfl, hcb, hgb, hmb⟩ := hvb
 obtain ⟨gb, rfl⟩ := hgb hnb
 obtain ⟨sa, cs, rfl, hcs, hgs2, hms⟩ := hvs
 have HB := Veil.mk (fun w hB => bucket_any t T.nb cb (some ⟨gb, 0, none⟩) (.slice sa T.sl.length cs) (.int .i64 (T.cnt : Int)) vc j hj hnj s.key hk w hB)
 have hbl := bucketOf_lt s.key hnb
 have hlb := lastB_le T.hs (bucketOf T.nb s.key)
 obtain ⟨q, hq⟩ : ∃ q, q = bucketOf T.nb s.key := ⟨_, rfl⟩
 have HQ := Veil.mk hq
 rw [<- hq] at hbl HB hlb
 obtain ⟨p0, hp0⟩ : ∃ p, p = lastB T.hs q := ⟨_, rfl⟩
 have HP := Veil.mk hp0
 rw [<- hp0] at hlb
 obtain ⟨⟨k0, k1, k2⟩, ⟨v0, v1, v2⟩, f, l, n⟩ := s
 have hS : ∀ W', Below (w.alloc (.cells #[.int .i64 k0, .int .i64 k1, .string k2, .int .i64 v0, .int .i64 v1, .string v2, .int .i64 f, .bool l, .int .i64 (n : Int)] 182)).heap.size (w.alloc (.cells #[.int .i64 k0, .int .i64 k1, .string k2, .int .i64 v0, .int .i64 v1, .string v2, .int .i64 f, .bool l, .int .i64 (n : Int)] 182)) W' ->
   TabAt W' B t T (.slice sa T.sl.length cs) (.slice (some ⟨gb, 0, none⟩) T.nb cb) vc /\ Box W' w.heap.size 182 #[.int .i64 k0, .int .i64 k1, .string k2, .int .i64 v0, .int .i64 v1, .string v2, .int .i64 f, .bool l, .int .i64 (n : Int)] /\ Below w.heap.size w W' := fun W' hb =>
  have hb0 : Below w.heap.size w W' := ((Below.refl _ w).alloc (Nat.le_refl _) _).trans (hb.mono (by simp))
  ⟨h.on hb0, (Box.new w _ _).on hb (by simp), hb0⟩
 have HS := Veil.mk hS
 have HBB := HB.out _ ((h.box).more (.cells #[.int .i64 k0, .int .i64 k1, .string k2, .int .i64 v0, .int .i64 v1, .string v2, .int .i64 f, .bool l, .int .i64 (n : Int)] 182))
 have HH := Veil.mk h
 have hHL := Veil.mk hlen
 have tl : t < w.heap.size := h.box.lt
 have gl : gb < w.heap.size := World.block_lt_of_cell? w _ (h.bcell q hbl)
 clear hq hp0 hS HB h hlen hgs2 hgb hnj
 go_enter Tryz.func102, Tryz.ntmps102
 go_upto_region 2 with (first | (go_at_call 129; ((with_reducible refine HBB.mono ?_); rintro e w1 ⟨rfl, hb1⟩)))
 obtain ⟨hT1, hX1, hB1⟩ := HS.out w1 hb1
 have a1 : w1.cell? ⟨t, 1, none⟩ = some (.slice (some ⟨gb, 0, none⟩) T.nb cb) := hT1.box.at_ 1
 have a2 : w1.cell? ⟨gb, q, none⟩ = some (.int .i64 (p0 : Int)) := by rw [HP.out]; exact hT1.bcell q hbl
 have a3 : w1.cell? ⟨w.heap.size, 8, none⟩ = some (.int .i64 (n : Int)) := hX1.at_ 8
 have a4 := hX1.free 8
 have e2 : (0 : Int) <= (q : Int) := by omega
 have e3 : (q : Int) < (T.nb : Int) := by omega
 clear HBB hb1
 go_upto_region 3 with (fail)
 obtain ⟨W2, hW2⟩ : ∃ W, W = w1.setCell ⟨w.heap.size, 8, none⟩ (.int .i64 (p0 : Int)) := ⟨_, rfl⟩
 have hX2 : Box W2 w.heap.size 182 #[.int .i64 k0, .int .i64 k1, .string k2, .int .i64 v0, .int .i64 v1, .string v2, .int .i64 f, .bool l, .int .i64 (p0 : Int)] := by rw [hW2]; exact hX1.put 8 _
 have hB2 : Below w.heap.size w W2 := by rw [hW2]; exact hB1.setCell (p := ⟨w.heap.size, 8, none⟩) (Nat.le_refl _) _
 have hT2 := HH.out.on hB2
 rw [<- hW2]
 have d0 : W2.cell? ⟨t, 0, none⟩ = some (.slice sa T.sl.length cs) := hT2.box.at_ 0
 have x0 : W2.cell? ⟨w.heap.size, 0, none⟩ = some (.int .i64 k0) := hX2.at_ 0
 have x1 : W2.cell? ⟨w.heap.size, 1, none⟩ = some (.int .i64 k1) := hX2.at_ 1
 have x2 : W2.cell? ⟨w.heap.size, 2, none⟩ = some (.string k2) := hX2.at_ 2
 have x3 : W2.cell? ⟨w.heap.size, 3, none⟩ = some (.int .i64 v0) := hX2.at_ 3
 have x4 : W2.cell? ⟨w.heap.size, 4, none⟩ = some (.int .i64 v1) := hX2.at_ 4
 have x5 : W2.cell? ⟨w.heap.size, 5, none⟩ = some (.string v2) := hX2.at_ 5
 have x6 : W2.cell? ⟨w.heap.size, 6, none⟩ = some (.int .i64 f) := hX2.at_ 6
 have x7 : W2.cell? ⟨w.heap.size, 7, none⟩ = some (.bool l) := hX2.at_ 7
 have x8 : W2.cell? ⟨w.heap.size, 8, none⟩ = some (.int .i64 (p0 : Int)) := hX2.at_ 8
 have hBs : B <= W2.heap.size := by have := hT2.bt; have := hT2.box.lt; omega
 have hap := hT2.box.apart hT2.os (by decide)
 have tl2 : t < W2.heap.size := hT2.box.lt
 have nn := World.new_ne W2 _ d0
 clear hW2 hT1 hX1 hB1 a1 a2 a3 a4 hX2 HS
 go_region_law (refine step_append_lies _ rfl (.tmp 21) (.tmp 23) 174 rfl B 182 i0 (.agg #[.int .i64 0, .int .i64 0, .string ⟨#[]⟩, .int .i64 0, .int .i64 0, .string ⟨#[]⟩, .int .i64 0, .bool false, .int .i64 0]) 9 88 Tryz.underlying174 hi hz0 hz1 hz2 rfl (by decide) (.slice sa T.sl.length cs) T.sl.length (slFlat T.sl) (by simp [Act.eval]) (by first | exact (own_drew hT2.os).alloc _ | exact own_drew (hT2.os.alloc _)) ⟨W2.heap.size, 0, none⟩ 1 1 [.int .i64 k0, .int .i64 k1, .string k2, .int .i64 v0, .int .i64 v1, .string v2, .int .i64 f, .bool l, .int .i64 (p0 : Int)] (by simp [Act.eval]) rfl (by first | exact news_at _ _ rfl _ _ | exact cells_drew (news_at _ _ rfl _ _)) (by simp [Value.oneCell']) (by decide) (by unfold maxLen; omega) (by omega) (by simp; omega) _ rfl ?_; intro g cap' w3 hown' hgrow3 hblk hg3; have hx3 : Box w3 t 177 #[.slice sa T.sl.length cs, .slice (some ⟨gb, 0, none⟩) T.nb cb, .int .i64 (T.cnt : Int), vc] := (by first | exact (Box.more (w := W2.drew) hT2.box _).grown hgrow3 hap | exact (Box.drew (hT2.box.more _)).grown hgrow3 hap); have e12 : w3.cell? ⟨t, 0, none⟩ = some (.slice sa T.sl.length cs) := hx3.at_ 0; have e13 := hx3.free 0)
 all_goals
  have hgT : Touch (fun k => (Value.slice sa T.sl.length cs).ownBlock = some k) W2 w3 := (Touch.of_below (((Below.refl W2.heap.size W2).alloc (Nat.le_refl _) (.cells #[.int .i64 k0, .int .i64 k1, .string k2, .int .i64 v0, .int .i64 v1, .string v2, .int .i64 f, .bool l, .int .i64 (p0 : Int)] 182)).drew)).trans (Touch.of_grown hgrow3 (fun k hk => hk))
  have hD := Veil.mk (add_done (s := ⟨(k0, k1, k2), (v0, v1, v2), f, l, n⟩) hT2 HQ.out hHL.out hgT (by rw [<- HQ.out, <- HP.out]; exact hown') (hblk.imp id (fun e => by rw [e]; simp [World.drew])))
  have h3b := own_touch hT2.ob hgT (fun k hk e => (own_lab hT2.os k e).ne (own_lab hT2.ob k hk) (by decide) rfl)
  have gbt : gb ≠ t := (own_lab h3b gb rfl).ne hx3.lab (by decide)
  have f3 := hx3.put 0 (.slice (some ⟨g, 0, none⟩) (T.sl.length + 1) cap')
  have h3b' := own_touch h3b (Touch.put (S := fun k => k = t) (w := w3) rfl 0 (.slice (some ⟨g, 0, none⟩) (T.sl.length + 1) cap')) (fun k hk e => by cases hk; exact gbt e)
  obtain ⟨W3, hW3⟩ : ∃ W, W = w3.setCell ⟨t, 0, none⟩ (.slice (some ⟨g, 0, none⟩) (T.sl.length + 1) cap') := ⟨_, rfl⟩
  rw [<- hW3] at hD f3 h3b' ⊢
  have c0 : W3.cell? ⟨t, 0, none⟩ = some (.slice (some ⟨g, 0, none⟩) (T.sl.length + 1) cap') := f3.at_ 0
  have c1 : W3.cell? ⟨t, 1, none⟩ = some (.slice (some ⟨gb, 0, none⟩) T.nb cb) := f3.at_ 1
  have c2 : W3.cell? ⟨gb, q, none⟩ = some (.int .i64 (p0 : Int)) := by
   have := h3b'.cells (g := gb) rfl q (.int .i64 (p0 : Int)) (by unfold bucketC; rw [List.getElem?_map, List.getElem?_range hbl, HP.out]; rfl)
   rwa [add_off] at this
  have c3 : W3.frozen? ⟨gb, q, none⟩ = false := own_free h3b' q
  have hBW := hB2
  clear hW3 f3 h3b h3b' hgT hx3 hown' hgrow3 hblk hg3 e12 e13 d0 x0 x1 x2 x3 x4 x5 x6 x7 x8 hap nn hT2 tl2 hBs
  go_wp2
  go_region
  all_goals
   go_wp2
   go_end0
   exact ⟨rfl, TabPost.before (by first | exact hD.out | exact hD.out.drew) hBW⟩
def cntL (l : List Sl) : Nat := (l.filter (fun s => s.live)).length
theorem cntL_snoc (l : List Sl) (s : Sl) : cntL (l ++ [s]) = cntL l + if s.live then 1 else 0 := by
 unfold cntL
 rw [List.filter_append, List.length_append]
 rcases h : s.live with _ | _ <;> simp [List.filter, h]
theorem cntL_le (l : List Sl) : cntL l <= l.length := List.length_filter_le _ _
def befC (l : List Sl) (i : Nat) : List Value := (List.range (l.length + 1)).map fun j => .int .i64 (if j <= i then (cntL (l.take j) : Int) else 0)
def moved (l : List Sl) (c : Nat × Nat) : Nat × Nat := (c.1, cntL (l.take c.2))
def moveT (T : Tab) (k : Nat) : Tab := { T with cur := (T.cur.take k).map (moved T.sl) ++ T.cur.drop k }
theorem made_zero (n : Nat) : (madeCells (Value.int .i64 0).cells (n * 1)).toList = List.replicate n (.int .i64 0) := by
 apply List.ext_getElem
 ·simp [madeCells]
 ·intro i h1 h2
  simp [madeCells, Value.cells, Nat.mod_one]
theorem bef_zero (l : List Sl) : (madeCells (Value.int .i64 0).cells ((l.length + 1) * 1)).toList = befC l 0 := by
 rw [made_zero]
 apply List.ext_getElem
 ·simp [befC]
 ·intro i h1 h2
  simp only [befC, List.getElem_replicate, List.getElem_map, List.getElem_range]
  split
  ·have : i = 0 := by omega
   subst this; rfl
  ·rfl
theorem bef_at (l : List Sl) (k j : Nat) (hj : j <= l.length) (hjk : j <= k) : (befC l k)[j]? = some (.int .i64 (cntL (l.take j) : Int)) := by
 unfold befC
 rw [List.getElem?_map, List.getElem?_range (by omega)]
 simp [hjk]
theorem bef_new (l : List Sl) (k : Nat) (hk : k < l.length) : (befC l k)[k + 1]? = some (.int .i64 0) := by
 unfold befC
 rw [List.getElem?_map, List.getElem?_range (by omega)]
 simp
 intro h; omega
theorem bef_set (l : List Sl) (k : Nat) (hk : k < l.length) (s : Sl) (hs : l[k]? = some s) (v : Int) (hv : v = (cntL (l.take k) : Int) + if s.live then 1 else 0) : (befC l k).set (k + 1) (.int .i64 v) = befC l (k + 1) := by
 apply List.ext_getElem?
 intro i
 by_cases e : k + 1 = i
 ·subst e
  rw [List.getElem?_set_self (by simp [befC]; omega), bef_at l (k + 1) (k + 1) (by omega) (Nat.le_refl _), List.take_add_one, hs]
  show _ = some (Value.int .i64 (cntL (l.take k ++ [s]) : Int))
  rw [cntL_snoc, hv]
  cases s.live <;> simp
 ·rw [List.getElem?_set_ne e]
  unfold befC
  rw [List.getElem?_map, List.getElem?_map]
  by_cases hi : i < l.length + 1
  ·rw [List.getElem?_range hi]
   simp only [Option.map_some]
   congr 2
   by_cases h1 : i <= k
   ·rw [if_pos h1, if_pos (by omega)]
   ·rw [if_neg h1, if_neg (by omega)]
  ·rw [List.getElem?_eq_none (by simp; omega)]
   rfl
theorem TabAt.setAt {w : World} {B t : Nat} {T : Tab} {vs vb vc : Value} (h : TabAt w B t T vs vb vc) (k : Nat) (c : Nat × Nat) (hc : T.cur[k]? = some c) (a : Nat) :
  TabAt (w.setCell ⟨c.1, 1, none⟩ (.int .i64 (a : Int))) B t { T with cur := T.cur.set k (c.1, a) } vs vb vc := by
 have hb := (h.cs k c hc).2
 have tp : Touch (fun k => k = c.1) w (w.setCell ⟨c.1, 1, none⟩ (.int .i64 (a : Int))) := Touch.put (S := fun k => k = c.1) rfl 1 _
 refine ⟨h.box.touch tp (fun e => (h.box.lab.ne hb.lab (by decide)) e), own_touch h.os tp (fun k hk e => ((own_lab h.os k hk).ne hb.lab (by decide)) e), own_touch h.ob tp (fun k hk e => ((own_lab h.ob k hk).ne hb.lab (by decide)) e), ?_, ?_, h.bt⟩
 ·have := own_touch h.oc tp (fun k hk e => ((own_lab h.oc k hk).ne hb.lab (by decide)) e)
  show World.ownsRow _ B _ 1 vc (T.cur.set k (c.1, a)).length (curC (T.cur.set k (c.1, a)))
  rw [List.length_set]
  have e : curC (T.cur.set k (c.1, a)) = curC T.cur := by
   unfold curC
   rw [List.map_set]
   apply List.ext_getElem?
   intro i
   by_cases hi : k = i
   ·subst hi
    rw [List.getElem?_set_self (by simpa using (List.getElem?_eq_some_iff.1 hc).1), List.getElem?_map, hc]; rfl
   ·rw [List.getElem?_set_ne hi]
  rw [e]
  exact this
 ·intro i d hd
  by_cases hi : k = i
  ·subst hi
   rw [List.getElem?_set_self (List.getElem?_eq_some_iff.1 hc).1] at hd
   cases hd
   exact ⟨(h.cs k c hc).1, hb.put 1 _⟩
  ·rw [List.getElem?_set_ne hi] at hd
   refine ⟨(h.cs i d hd).1, (h.cs i d hd).2.touch tp (fun e => hi ?_)⟩
   have h1 := (h.cs i d hd).2
   rw [e] at h1
   have := (show w.heap[c.1]? = _ from hb).symm.trans h1
   simp at this
   have := this.2
   omega
theorem moveT_cur (T : Tab) (k : Nat) (c : Nat × Nat) (hc : T.cur[k]? = some c) : (moveT T k).cur[k]? = some c /\ { moveT T k with cur := (moveT T k).cur.set k (c.1, cntL (T.sl.take c.2)) } = moveT T (k + 1) := by
 have hk := (List.getElem?_eq_some_iff.1 hc).1
 have h1 : ((T.cur.take k).map (moved T.sl)).length = k := by rw [List.length_map, List.length_take]; omega
 refine ⟨?_, ?_⟩
 ·show ((T.cur.take k).map (moved T.sl) ++ T.cur.drop k)[k]? = _
  rw [List.getElem?_append_right (by omega), h1, Nat.sub_self, List.getElem?_drop]
  exact hc
 ·have key : ((T.cur.take k).map (moved T.sl) ++ T.cur.drop k).set k (c.1, cntL (T.sl.take c.2)) = (T.cur.take (k + 1)).map (moved T.sl) ++ T.cur.drop (k + 1) := by
   rw [List.set_append_right _ _ (by omega), h1, Nat.sub_self, List.take_add_one, hc, List.drop_eq_getElem_cons hk]
   have e : T.cur[k] = c := by
    have := List.getElem?_eq_getElem hk
    rw [hc] at this; cases this; rfl
   rw [e]
   simp [moved]
  show Tab.mk _ _ _ _ _ = Tab.mk _ _ _ _ _
  rw [<- key]
  rfl
theorem moveT_foot (T : Tab) (t k : Nat) (vs vb vc : Value) (j : Nat) : Foot t (moveT T k) vs vb vc j -> Foot t T vs vb vc j := by
 rintro (h | h | h | h | ⟨c, hc, rfl⟩)
 ·exact .inl h
 ·exact .inr (.inl h)
 ·exact .inr (.inr (.inl h))
 ·exact .inr (.inr (.inr (.inl h)))
 ·refine .inr (.inr (.inr (.inr ?_)))
  rcases List.mem_append.1 (show c ∈ (T.cur.take k).map (moved T.sl) ++ T.cur.drop k from hc) with h | h
  ·obtain ⟨d, hd, rfl⟩ := List.mem_map.1 h
   exact ⟨d, List.mem_of_mem_take hd, rfl⟩
  ·exact ⟨c, List.mem_of_mem_drop h, rfl⟩
theorem moveT_zero (T : Tab) : moveT T 0 = T := by unfold moveT; simp
theorem Tryz.infoJ : (Tryz.prog.info? 3).map (fun i => (i.zero, i.size, i.bytes)) = some (some (.int .i64 0), 1, 8) := by kernel_rfl
def MovePost (B t : Nat) (T : Tab) (vs vb vc : Value) (w w' : World) : Prop := TabAt w' B t (moveT T T.cur.length) vs vb vc /\ Touch (Foot t T vs vb vc) w w'
theorem move_any (B t : Nat) (T : Tab) (vs vb vc : Value) (hcap : T.sl.length < 100000) (hcur : T.cur.length < 100000) (hat : ∀ c ∈ T.cur, c.2 <= T.sl.length) (w : World) (h : TabAt w B t T vs vb vc) :
  Calls Tryz.prog 130 #[.pointer (some ⟨t, 0, none⟩)] w fun e w' => e = .returned (.tuple #[]) /\ MovePost B t T vs vb vc w w' := by
 obtain ⟨cc, cl, rfl, hcl, hgc, hmc⟩ := slice_own h.oc
 obtain ⟨sa, cs, rfl, hcs, hgs2, hms⟩ := slice_own h.os
 have t0 : w.cell? ⟨t, 0, none⟩ = some (.slice sa T.sl.length cs) := h.box.at_ 0
 have t3 : w.cell? ⟨t, 3, none⟩ = some (.slice cc T.cur.length cl) := h.box.at_ 3
 rcases Nat.eq_zero_or_pos T.cur.length with h0 | hpos
 ·have hD : MovePost B t T (.slice sa T.sl.length cs) vb (.slice cc T.cur.length cl) w w := by
   have e : T.cur = [] := List.eq_nil_of_length_eq_zero h0
   have e2 : moveT T T.cur.length = T := by obtain ⟨a, b, c, d, f⟩ := T; cases e; rfl
   unfold MovePost
   rw [e2]
   exact ⟨h, Touch.refl _ _⟩
  have HD := Veil.mk hD
  have t3' : w.cell? ⟨t, 3, none⟩ = some (.slice cc 0 cl) := by rw [t3, h0]
  have hq : ((0 : Int) == 0) = true := rfl
  clear hD h hgc hgs2 hcl hat t3 h0
  go_enter Tryz.func130, Tryz.ntmps130
  go_wp2
  exact bodyPost_ret (results_none rfl _ _ _) rfl ⟨rfl, HD.out⟩
 ·have q0 : ((T.cur.length : Int) == 0) = false := beq_eq_false_iff_ne.2 (by omega)
  obtain ⟨i0, hi, hz0, hz1, hz2⟩ := info_parts Tryz.infoJ
  obtain ⟨w1, hr, hown1, hg1⟩ := run_make_full (P := Tryz.prog) w w.heap.size 48 3 i0 (.int .i64 0) 1 Tryz.underlying48 hi hz0 hz1 .i64 .i64 (T.sl.length + 1) (by rw [hz2]; omega) (by unfold maxLen; omega) (Nat.le_refl _)
  rw [show ((T.sl.length + 1 : Nat) : Int) = (T.sl.length : Int) + 1 by omega] at hr
  rw [bef_zero T.sl] at hown1
  have hb1 : Below w.heap.size w w1 := (Below.refl _ _).grown hg1 (Nat.le_refl _) (fun k h => by cases h)
  have hT1 : TabAt w1 B t T (.slice sa T.sl.length cs) vb (.slice cc T.cur.length cl) := h.on hb1
  have s0 : w1.cell? ⟨t, 0, none⟩ = some (.slice sa T.sl.length cs) := hT1.box.at_ 0
  have s3 : w1.cell? ⟨t, 3, none⟩ = some (.slice cc T.cur.length cl) := hT1.box.at_ 3
  have HT1 := Veil.mk hT1
  have HT := Veil.mk h
  have e1 : IntKind.i64.wrap ((T.sl.length : Int) + 1) = (T.sl.length : Int) + 1 := IntWalk.i64_in _ (by omega)
  have hw1 := hb1.size
  have HAT := Veil.mk hat
  clear hT1 h hg1 hat
  go_enter Tryz.func130, Tryz.ntmps130
  go_wp2
  go_loopw [25] (fun i wr => ∃ k : Nat, k <= T.sl.length /\ i = .int .i64 (k : Int) /\ wr.ownsRow w.heap.size 3 1 (.slice (some ⟨w.heap.size, 0, none⟩) (T.sl.length + 1) (T.sl.length + 1)) (T.sl.length + 1) (befC T.sl k) /\ Below w.heap.size w wr) (fun i _ => T.sl.length - (intOf i).toNat)
  case atStart => exact ⟨0, Nat.zero_le _, rfl, hown1, hb1⟩
  case round =>
   obtain ⟨k, hk, rfl, hown, hbw⟩ := hrel
   clear hown1 hb1 hr s0 s3
   by_cases hp : k < T.sl.length
   ·obtain ⟨gs, rfl⟩ := hgs2 (by omega)
    have hsp : T.sl[k]? = some T.sl[k] := List.getElem?_eq_getElem hp
    obtain ⟨s, hse⟩ : ∃ s, s = T.sl[k] := ⟨_, rfl⟩
    rw [<- hse] at hsp
    clear hse
    have hT2 := HT.out.on hbw
    obtain ⟨k0, k1, k2, v0, v1, v2, ff, fl, fn⟩ := hT2.slot k s hsp
    have b0 := hown.cells (g := w.heap.size) rfl k (.int .i64 (cntL (T.sl.take k) : Int)) (bef_at T.sl k k (by omega) (Nat.le_refl _))
    have b1 := hown.cells (g := w.heap.size) rfl (k + 1) (.int .i64 0) (bef_new T.sl k (by omega))
    rw [add_off] at b0 b1
    have b2 := own_free hown (k + 1)
    have i0 : (0 : Int) <= (k : Int) := by omega
    have i1 : (k : Int) < (T.sl.length : Int) := by omega
    have i2 : IntKind.i64.wrap ((k : Int) + 1) = (k : Int) + 1 := IntWalk.i64_in _ (by omega)
    have i3 : (0 : Int) <= (k : Int) + 1 := by omega
    have i4 : ((k : Int) + 1).toNat = k + 1 := by omega
    have nn := World.new_ne wr _ b0
    have nl : w.heap.size < wr.heap.size := World.block_lt_of_cell? wr _ b0
    have hcl2 := cntL_le (T.sl.take k)
    rw [List.length_take] at hcl2
    have i5 : IntKind.i64.wrap ((cntL (T.sl.take k) : Int) + 1) = (cntL (T.sl.take k) : Int) + 1 := IntWalk.i64_in _ (by omega)
    have HB0 := Veil.mk (fun v hv => bef_set T.sl k hp s hsp v hv)
    clear hsp hT2
    rcases hlv : s.live with _ | _
    ·rw [hlv] at fl HB0
     have hfin := (own_put hown (k + 1) (.int .i64 (cntL (T.sl.take k) : Int)))
     rw [HB0.out _ (by simp)] at hfin
     clear hlv hown
     go_wp2
     exact ⟨⟨k + 1, by omega, by go_num, hfin.alloc _, (hbw.setCell (p := ⟨w.heap.size, k + 1, none⟩) (Nat.le_refl _) _).alloc (by simp; omega) _⟩, by simp [intOf]; omega⟩
    ·rw [hlv] at fl HB0
     have hfin := own_put (own_put hown (k + 1) (.int .i64 (cntL (T.sl.take k) : Int))) (k + 1) (.int .i64 ((cntL (T.sl.take k) : Int) + 1))
     rw [List.set_set, HB0.out _ (by simp)] at hfin
     clear hlv hown
     go_wp2
     exact ⟨⟨k + 1, by omega, by go_num, hfin.alloc _, ((hbw.setCell (p := ⟨w.heap.size, k + 1, none⟩) (Nat.le_refl _) _).setCell (p := ⟨w.heap.size, k + 1, none⟩) (Nat.le_refl _) _).alloc (by simp; omega) _⟩, by simp [intOf]; omega⟩
   ·obtain rfl : k = T.sl.length := by omega
    have hlt' : ¬ (T.sl.length : Int) < (T.sl.length : Int) := by omega
    have hT2 := HT.out.on hbw
    have s3 : wr.cell? ⟨t, 3, none⟩ = some (.slice cc T.cur.length cl) := hT2.box.at_ 3
    obtain ⟨gc, rfl⟩ := hgc hpos
    go_wp2
    obtain ⟨wo, rfl⟩ : ∃ wo : World, wo = wr := ⟨_, rfl⟩
    go_loopw [53] (fun i wx => ∃ k : Nat, k <= T.cur.length /\ i = .int .i64 (k : Int) /\ TabAt wx B t (moveT T k) (.slice sa T.sl.length cs) vb (.slice (some ⟨gc, 0, none⟩) T.cur.length cl) /\ wx.ownsRow w.heap.size 3 1 (.slice (some ⟨w.heap.size, 0, none⟩) (T.sl.length + 1) (T.sl.length + 1)) (T.sl.length + 1) (befC T.sl T.sl.length) /\ Touch (Foot t T (.slice sa T.sl.length cs) vb (.slice (some ⟨gc, 0, none⟩) T.cur.length cl)) wo wx) (fun i _ => T.cur.length - (intOf i).toNat)
    case atStart => exact ⟨0, Nat.zero_le _, rfl, by rw [moveT_zero]; exact hT2, hown, Touch.refl _ _⟩
    case round =>
     obtain ⟨k, hk, rfl, hTk, hown2, htk⟩ := hrel
     clear hT2 s3 hown t0 t3
     by_cases hp : k < T.cur.length
     ·have hc : T.cur[k]? = some T.cur[k] := List.getElem?_eq_getElem hp
      obtain ⟨c, hce⟩ : ∃ c, c = T.cur[k] := ⟨_, rfl⟩
      rw [<- hce] at hc
      clear hce
      have hca := HAT.out c (List.mem_of_getElem? hc)
      obtain ⟨m1, m2⟩ := moveT_cur T k c hc
      have hbx := (hTk.cs k c m1).2
      have d0 : wo.heap.size <= wr.heap.size := htk.size
      have d1 : wr.cell? ⟨gc, k, none⟩ = some (.pointer (some ⟨c.1, 0, none⟩)) := by
       have := hTk.oc.cells (g := gc) rfl k (.pointer (some ⟨c.1, 0, none⟩)) (by unfold curC; rw [List.getElem?_map, m1]; rfl)
       rwa [add_off] at this
      have d2 : wr.cell? ⟨c.1, 1, none⟩ = some (.int .i64 (c.2 : Int)) := hbx.at_ 1
      have d3 := hbx.free 1
      have d4 : wr.cell? ⟨w.heap.size, c.2, none⟩ = some (.int .i64 (cntL (T.sl.take c.2) : Int)) := by
       have := hown2.cells (g := w.heap.size) rfl c.2 _ (bef_at T.sl T.sl.length c.2 hca hca)
       rwa [add_off] at this
      have j0 : (0 : Int) <= (k : Int) := by omega
      have j1 : (k : Int) < (T.cur.length : Int) := by omega
      have j2 : (0 : Int) <= (c.2 : Int) := by omega
      have j3 : (c.2 : Int) < (T.sl.length : Int) + 1 := by omega
      have j4 : (c.2 : Int) < ((T.sl.length + 1 : Nat) : Int) := by omega
      have hfin := hTk.setAt k c m1 (cntL (T.sl.take c.2))
      rw [m2] at hfin
      have tp : Touch (fun k => k = c.1) wr (wr.setCell ⟨c.1, 1, none⟩ (.int .i64 (cntL (T.sl.take c.2) : Int))) := Touch.put (S := fun k => k = c.1) rfl 1 _
      have hown3 := own_touch hown2 tp (fun k hk e => ((own_lab hown2 k hk).ne hbx.lab (by decide)) e)
      have htk3 := htk.trans (tp.mono (fun j hj => (.inr (.inr (.inr (.inr ⟨c, List.mem_of_getElem? hc, hj.symm⟩))) : Foot t T (.slice sa T.sl.length cs) vb (.slice (some ⟨gc, 0, none⟩) T.cur.length cl) j)))
      have HFIN := Veil.mk (And.intro hfin (And.intro hown3 htk3))
      clear hfin hown3 htk3 tp hTk hown2 htk m1 m2 hc hbx
      go_wp2
      exact ⟨⟨k + 1, by omega, by go_num, HFIN.out.1, HFIN.out.2.1, HFIN.out.2.2⟩, by simp [intOf]; omega⟩
     ·obtain rfl : k = T.cur.length := by omega
      have hlt2 : ¬ (T.cur.length : Int) < (T.cur.length : Int) := by omega
      go_wp2
      go_end0
      exact ⟨rfl, hTk, (Touch.of_below hbw).trans htk⟩
theorem Touch.comp {F G : Nat -> Prop} {w w1 w2 : World} (h : Touch F w w1) (h2 : Touch G w1 w2) (hg : ∀ k, G k -> F k \/ w.heap.size <= k) : Touch F w w2 :=
 ⟨h2.os.trans h.os, h2.tape.trans h.tape, h2.output.trans h.output, Nat.le_trans h.size h2.size, fun k hk hn => (h2.block k (Nat.lt_of_lt_of_le hk h.size) (fun e => (hg k e).elim hn (fun h => by omega))).trans (h.block k hk hn)⟩
def liveL (l : List Sl) : List Sl := l.filter (fun s => s.live)
theorem liveL_snoc (l : List Sl) (s : Sl) : liveL (l ++ [s]) = if s.live then liveL l ++ [s] else liveL l := by
 unfold liveL
 rw [List.filter_append]
 rcases h : s.live with _ | _ <;> simp [List.filter, h]
def reT (T : Tab) (j : Nat) : Tab := buildT (2 ^ j) (T.cur.map (moved T.sl)) T.cnt (liveL T.sl)
theorem pow_room {j c : Nat} (h : 2 ^ j = 2 \/ 2 ^ j < 4 * c) (hc : c <= 200000) : j <= 30 := by
 rcases Nat.lt_or_ge 30 j with hj | hj
 ·have : 2 ^ 30 <= 2 ^ j := Nat.pow_le_pow_right (by omega) (by omega)
  have e : 2 ^ 30 = 1073741824 := by decide
  omega
 ·exact hj
def FootR (t : Nat) (T : Tab) (vc : Value) (k : Nat) : Prop := k = t \/ vc.ownBlock = some k \/ ∃ c ∈ T.cur, c.1 = k
theorem FootR.foot {t : Nat} {T : Tab} {vc : Value} (vs vb : Value) {k : Nat} (h : FootR t (moveT T T.cur.length) vc k) : Foot t T vs vb vc k := by
 refine moveT_foot T t T.cur.length vs vb vc k ?_
 rcases h with h | h | h
 ·exact .inl h
 ·exact .inr (.inr (.inr (.inl h)))
 ·exact .inr (.inr (.inr (.inr h)))
theorem moved_all (T : Tab) : (moveT T T.cur.length).cur = T.cur.map (moved T.sl) := by
 show (T.cur.take T.cur.length).map (moved T.sl) ++ T.cur.drop T.cur.length = _
 rw [List.take_length, List.drop_length, List.append_nil]
theorem TabPost.step {B t : Nat} {T1 T2 : Tab} {F : Nat -> Prop} {w w1 w2 : World} {vs vb vc : Value} (_ : TabAt w1 B t T1 vs vb vc) (a2 : Touch F w w1) (a3 : ∀ k, Foot t T1 vs vb vc k -> F k \/ w.heap.size <= k) (h2 : TabPost B t T2 (Foot t T1 vs vb vc) w1 w2) : TabPost B t T2 F w w2 := by
 obtain ⟨vs2, vb2, vc2, b1, b2, b3⟩ := h2
 exact ⟨vs2, vb2, vc2, b1, a2.comp b2 a3, fun k hk => (b3 k hk).elim (fun h => a3 k h) (fun h => .inr (Nat.le_trans a2.size h))⟩
theorem SlotAt.touch {w w' : World} {g i : Nat} {s : Sl} {S : Nat -> Prop} (h : SlotAt w g i s) (ht : Touch S w w') (hg : g < w.heap.size) (hn : ¬ S g) : SlotAt w' g i s := by
 have key : ∀ o, w'.cell? ⟨g, o, none⟩ = w.cell? ⟨g, o, none⟩ := fun o => World.cell?_of_block (ht.block g hg hn)
 exact ⟨(key _).trans h.k0, (key _).trans h.k1, (key _).trans h.k2, (key _).trans h.v0, (key _).trans h.v1, (key _).trans h.v2, (key _).trans h.f, (key _).trans h.l, (key _).trans h.n⟩
theorem FootR.old {w : World} {B t : Nat} {T : Tab} {vs vb vc : Value} (h : TabAt w B t T vs vb vc) {k : Nat} (hk : FootR t T vc k) : ∀ g, vs.ownBlock = some g -> k = g -> False := fun g hg e => by
 subst e
 have ls := own_lab h.os k hg
 rcases hk with rfl | hk | ⟨c, hc, e⟩
 ·exact ls.ne h.box.lab (by decide) rfl
 ·exact ls.ne (own_lab h.oc k hk) (by decide) rfl
 ·subst e
  obtain ⟨i, hi⟩ := List.mem_iff_getElem?.1 hc
  exact ls.ne (h.cs i c hi).2.lab (by decide) rfl
theorem buildT_hs (nb : Nat) (cur : List (Nat × Nat)) (cnt : Nat) : ∀ l, (buildT nb cur cnt l).hs.length = (buildT nb cur cnt l).sl.length := by
 refine snoc_ind rfl (fun l x ih => ?_)
 rw [buildT_snoc]
 simp [addT, ih]
def cellsS (n : Nat) : Array Value := madeCells (Value.agg #[.int .i64 0, .int .i64 0, .string ⟨#[]⟩, .int .i64 0, .int .i64 0, .string ⟨#[]⟩, .int .i64 0, .bool false, .int .i64 0]).cells (n * 9)
def cellsI (n : Nat) : Array Value := madeCells (Value.int .i64 0).cells (n * 1)
theorem make_S (n : Nat) (hn : n <= 1073741824) (W : World) : (Instr.makeSlice 174 (.int .i64 0) (.int .i64 (n : Int))).run Tryz.prog W = .ok (.slice (some ⟨W.heap.size, 0, none⟩) 0 n) (W.alloc (.cells (cellsS n) 182)) := by
 obtain ⟨iS, hiS, hzS0, hzS1, hzS2⟩ := info_parts Tryz.infoS
 have := run_make (P := Tryz.prog) W 174 182 iS _ Tryz.underlying174 hiS hzS0 .i64 .i64 0 (n : Int) (by omega) (by omega) (by rw [hzS2]; omega) (by omega)
 rw [hzS1] at this
 simpa [cellsS] using this
theorem make_I (n : Nat) (hn : n <= 1073741824) (W : World) : (Instr.makeSlice 48 (.int .i64 (n : Int)) (.int .i64 (n : Int))).run Tryz.prog W = .ok (.slice (some ⟨W.heap.size, 0, none⟩) n n) (W.alloc (.cells (cellsI n) 3)) := by
 obtain ⟨iI, hiI, hzI0, hzI1, hzI2⟩ := info_parts Tryz.infoJ
 have := run_make (P := Tryz.prog) W 48 3 iI _ Tryz.underlying48 hiI hzI0 .i64 .i64 (n : Int) (n : Int) (by omega) (by omega) (by rw [hzI2]; omega) (by omega)
 rw [hzI1] at this
 simpa [cellsI] using this
theorem fresh_a {w1 : World} {B t n : Nat} {T : Tab} {vs vb vc : Value} (h : TabAt w1 B t T vs vb vc) (hn : n <= 1073741824) :
  TabPost B t { sl := [], hs := [], nb := n, cnt := T.cnt, cur := T.cur } (FootR t T vc) w1 (((((w1.setCell ⟨t, 0, none⟩ (.slice (some ⟨w1.heap.size, 0, none⟩) 0 n)).setCell ⟨t, 1, none⟩ (.slice (some ⟨w1.heap.size + 1, 0, none⟩) n n)).alloc (.cells (cellsS n) 182)).alloc (.cells (cellsI n) 3))).drew := by
 obtain ⟨Wt, hWt⟩ : ∃ W, W = (w1.setCell ⟨t, 0, none⟩ (.slice (some ⟨w1.heap.size, 0, none⟩) 0 n)).setCell ⟨t, 1, none⟩ (.slice (some ⟨w1.heap.size + 1, 0, none⟩) n n) := ⟨_, rfl⟩
 have hz : Wt.heap.size = w1.heap.size := by rw [hWt]; simp [World.setCell]
 have tp : Touch (fun k => k = t) w1 Wt := by rw [hWt]; exact (Touch.put (S := fun k => k = t) rfl 0 _).trans (Touch.put (S := fun k => k = t) rfl 1 _)
 have bx : Box Wt t 177 #[.slice (some ⟨w1.heap.size, 0, none⟩) 0 n, .slice (some ⟨w1.heap.size + 1, 0, none⟩) n n, .int .i64 (T.cnt : Int), vc] := by rw [hWt]; exact (h.box.put 0 _).put 1 _
 have oc := own_touch h.oc tp (fun k hk e => ((own_lab h.oc k hk).ne h.box.lab (by decide)) e)
 have ck : ∀ (i : Nat) c, T.cur[i]? = some c -> B <= c.1 /\ Box Wt c.1 179 #[.pointer (some ⟨t, 0, none⟩), .int .i64 (c.2 : Int), .int .i64 (i : Int)] := fun i c hc => ⟨(h.cs i c hc).1, (h.cs i c hc).2.touch tp (fun e => ((h.cs i c hc).2.lab.ne h.box.lab (by decide)) e)⟩
 rw [<- hWt]
 have hBw : B <= w1.heap.size := by have := h.bt; have := h.box.lt; omega
 have r1 : (Wt.alloc (.cells (cellsS n) 182)).heap[w1.heap.size]? = some (.cells (cellsS n) 182 (0, 0)) := by rw [<- hz]; exact Box.new Wt _ _
 have r2 : ((Wt.alloc (.cells (cellsS n) 182)).alloc (.cells (cellsI n) 3)).heap[w1.heap.size]? = some (.cells (cellsS n) 182 (0, 0)) := by rw [Below.heap_alloc _ _ _ (by simp; omega)]; exact r1
 have r3 : ((Wt.alloc (.cells (cellsS n) 182)).alloc (.cells (cellsI n) 3)).heap[w1.heap.size + 1]? = some (.cells (cellsI n) 3 (0, 0)) := by
  have := Box.new (Wt.alloc (.cells (cellsS n) 182)) 3 (cellsI n)
  rw [World.size_alloc, hz] at this
  exact this
 refine TabPost.drew ⟨_, _, vc, ⟨(bx.more _).more _, ⟨rfl, .inr ⟨w1.heap.size, n, cellsS n, rfl, by omega, r2, Nat.zero_le _, by unfold maxLen; omega, size_madeCells _ _, by simp [slFlat]⟩⟩, ⟨by simp [bucketC], .inr ⟨w1.heap.size + 1, n, cellsI n, rfl, by omega, r3, Nat.le_refl _, by unfold maxLen; omega, size_madeCells _ _, ?_⟩⟩, (oc.alloc _).alloc _, fun i c hc => ⟨(ck i c hc).1, ((ck i c hc).2.more _).more _⟩, h.bt⟩, ?_, ?_⟩
 ·show (cellsI n).toList.take (n * 1) = (List.range n).map fun b => .int .i64 (lastB [] b : Int)
  rw [show cellsI n = madeCells (Value.int .i64 0).cells (n * 1) from rfl, made_zero]
  apply List.ext_getElem
  ·simp
  ·intro i h1 h2
   simp [lastB_nil]
 ·exact (tp.mono (fun k hk => .inl hk)).trans (Touch.of_below ((((Below.refl _ Wt).alloc (Nat.le_refl _) _).alloc (by simp) _)))
 ·rintro k (hk | hk | hk | hk | hk)
  ·exact .inl (.inl hk)
  ·cases hk; exact .inr (by first | exact Nat.le_refl _ | exact Nat.le_succ _)
  ·cases hk; exact .inr (by first | exact Nat.le_refl _ | exact Nat.le_succ _)
  ·exact .inl (.inr (.inl hk))
  ·exact .inl (.inr (.inr hk))
theorem fresh_b {w1 : World} {B t n : Nat} {T : Tab} {vs vb vc : Value} (h : TabAt w1 B t T vs vb vc) (hn : n <= 1073741824) :
  TabPost B t { sl := [], hs := [], nb := n, cnt := T.cnt, cur := T.cur } (FootR t T vc) w1 (((((w1.setCell ⟨t, 0, none⟩ (.slice (some ⟨w1.heap.size + 1, 0, none⟩) 0 n)).setCell ⟨t, 1, none⟩ (.slice (some ⟨w1.heap.size, 0, none⟩) n n)).alloc (.cells (cellsI n) 3)).alloc (.cells (cellsS n) 182))).drew := by
 obtain ⟨Wt, hWt⟩ : ∃ W, W = (w1.setCell ⟨t, 0, none⟩ (.slice (some ⟨w1.heap.size + 1, 0, none⟩) 0 n)).setCell ⟨t, 1, none⟩ (.slice (some ⟨w1.heap.size, 0, none⟩) n n) := ⟨_, rfl⟩
 have hz : Wt.heap.size = w1.heap.size := by rw [hWt]; simp [World.setCell]
 have tp : Touch (fun k => k = t) w1 Wt := by rw [hWt]; exact (Touch.put (S := fun k => k = t) rfl 0 _).trans (Touch.put (S := fun k => k = t) rfl 1 _)
 have bx : Box Wt t 177 #[.slice (some ⟨w1.heap.size + 1, 0, none⟩) 0 n, .slice (some ⟨w1.heap.size, 0, none⟩) n n, .int .i64 (T.cnt : Int), vc] := by rw [hWt]; exact (h.box.put 0 _).put 1 _
 have oc := own_touch h.oc tp (fun k hk e => ((own_lab h.oc k hk).ne h.box.lab (by decide)) e)
 have ck : ∀ (i : Nat) c, T.cur[i]? = some c -> B <= c.1 /\ Box Wt c.1 179 #[.pointer (some ⟨t, 0, none⟩), .int .i64 (c.2 : Int), .int .i64 (i : Int)] := fun i c hc => ⟨(h.cs i c hc).1, (h.cs i c hc).2.touch tp (fun e => ((h.cs i c hc).2.lab.ne h.box.lab (by decide)) e)⟩
 rw [<- hWt]
 have hBw : B <= w1.heap.size := by have := h.bt; have := h.box.lt; omega
 have r1 : (Wt.alloc (.cells (cellsI n) 3)).heap[w1.heap.size]? = some (.cells (cellsI n) 3 (0, 0)) := by rw [<- hz]; exact Box.new Wt _ _
 have r2 : ((Wt.alloc (.cells (cellsI n) 3)).alloc (.cells (cellsS n) 182)).heap[w1.heap.size]? = some (.cells (cellsI n) 3 (0, 0)) := by rw [Below.heap_alloc _ _ _ (by simp; omega)]; exact r1
 have r3 : ((Wt.alloc (.cells (cellsI n) 3)).alloc (.cells (cellsS n) 182)).heap[w1.heap.size + 1]? = some (.cells (cellsS n) 182 (0, 0)) := by
  have := Box.new (Wt.alloc (.cells (cellsI n) 3)) 182 (cellsS n)
  rw [World.size_alloc, hz] at this
  exact this
 refine TabPost.drew ⟨_, _, vc, ⟨(bx.more _).more _, ⟨rfl, .inr ⟨w1.heap.size + 1, n, cellsS n, rfl, by omega, r3, Nat.zero_le _, by unfold maxLen; omega, size_madeCells _ _, by simp [slFlat]⟩⟩, ⟨by simp [bucketC], .inr ⟨w1.heap.size, n, cellsI n, rfl, by omega, r2, Nat.le_refl _, by unfold maxLen; omega, size_madeCells _ _, ?_⟩⟩, (oc.alloc _).alloc _, fun i c hc => ⟨(ck i c hc).1, ((ck i c hc).2.more _).more _⟩, h.bt⟩, ?_, ?_⟩
 ·show (cellsI n).toList.take (n * 1) = (List.range n).map fun b => .int .i64 (lastB [] b : Int)
  rw [show cellsI n = madeCells (Value.int .i64 0).cells (n * 1) from rfl, made_zero]
  apply List.ext_getElem
  ·simp
  ·intro i h1 h2
   simp [lastB_nil]
 ·exact (tp.mono (fun k hk => .inl hk)).trans (Touch.of_below ((((Below.refl _ Wt).alloc (Nat.le_refl _) _).alloc (by simp) _)))
 ·rintro k (hk | hk | hk | hk | hk)
  ·exact .inl (.inl hk)
  ·cases hk; exact .inr (by first | exact Nat.le_refl _ | exact Nat.le_succ _)
  ·cases hk; exact .inr (by first | exact Nat.le_refl _ | exact Nat.le_succ _)
  ·exact .inl (.inr (.inl hk))
  ·exact .inl (.inr (.inr hk))
def RePost (B t : Nat) (T : Tab) (F : Nat -> Prop) (w w' : World) : Prop := ∃ j, 1 <= j /\ j <= 30 /\ 2 * T.cnt <= 2 ^ j /\ TabPost B t (reT T j) F w w'
theorem rebuild_any (B t : Nat) (T : Tab) (vs vb vc : Value) (hcap : T.sl.length < 100000) (hcnt : T.cnt < 100000) (hcur : T.cur.length < 100000) (hat : ∀ c ∈ T.cur, c.2 <= T.sl.length) (hkey : ∀ s ∈ T.sl, s.live = true -> s.key.2.2.size <= 1000) (w : World) (h : TabAt w B t T vs vb vc) :
  Calls Tryz.prog 101 #[.pointer (some ⟨t, 0, none⟩)] w fun e w' => e = .returned (.tuple #[]) /\ RePost B t T (Foot t T vs vb vc) w w' := by
 have t2 : w.cell? ⟨t, 2, none⟩ = some (.int .i64 (T.cnt : Int)) := h.box.at_ 2
 have t0 : w.cell? ⟨t, 0, none⟩ = some vs := h.box.at_ 0
 obtain ⟨sa, cs, rfl, hcs, hgs2, hms⟩ := slice_own h.os
 have HM := Veil.mk (move_any B t T (.slice sa T.sl.length cs) vb vc hcap hcur hat w h)
 have HT := Veil.mk h
 obtain ⟨iS, hiS, hzS0, hzS1, hzS2⟩ := info_parts Tryz.infoS
 obtain ⟨iI, hiI, hzI0, hzI1, hzI2⟩ := info_parts Tryz.infoJ
 have HAT := Veil.mk hat
 have HKEY := Veil.mk hkey
 clear h hat hkey
 go_enter Tryz.func101, Tryz.ntmps101
 go_wp2
 go_loop [2] (fun sz => ∃ j n : Nat, 1 <= j /\ sz = .int .i64 (n : Int) /\ Veil (n = 2 ^ j) /\ 2 <= n /\ (n = 2 \/ n < 4 * T.cnt)) (fun sz => 2 * T.cnt - (intOf sz).toNat)
 case atStart => exact ⟨1, 2, Nat.le_refl _, rfl, ⟨rfl⟩, Nat.le_refl _, .inl rfl⟩
 case round =>
  obtain ⟨j, n, hj, rfl, HN, hn2, hn4⟩ := hrel
  have i1 : IntKind.i64.wrap (2 * (T.cnt : Int)) = 2 * (T.cnt : Int) := IntWalk.i64_in _ (by omega)
  have i2 : IntKind.i64.wrap ((n : Int) * 2) = (n : Int) * 2 := IntWalk.i64_in _ (by omega)
  by_cases hp : n < 2 * T.cnt
  ·have q1 : (n : Int) < 2 * (T.cnt : Int) := by omega
   go_wp2
   go_round
   case rel => exact ⟨j + 1, n * 2, by omega, by simp, ⟨by rw [HN.out, Nat.pow_succ]⟩, by omega, .inr (by omega)⟩
   case measure => simp [intOf]; omega
  ·have q1 : ¬ (n : Int) < 2 * (T.cnt : Int) := by omega
   have hj30 : j <= 30 := pow_room (c := T.cnt) (by rw [<- HN.out]; exact hn4) (by omega)
   have hn30 : n <= 1073741824 := by rw [HN.out]; exact Nat.le_trans (Nat.pow_le_pow_right (by omega) hj30) (by decide)
   go_upto_region 5 with (first | (go_at_call 130; ((with_reducible refine HM.out.mono ?_); rintro e w1 ⟨rfl, hp1⟩)))
   obtain ⟨hT1, htc1⟩ := hp1
   have c0 := hT1.box.at_ 0
   have c1 := hT1.box.at_ 1
   have f0 := hT1.box.free 0
   have f1 := hT1.box.free 1
   have mkS : ∀ W, (Instr.makeSlice 174 (.int .i64 0) (.int .i64 (n : Int))).run Tryz.prog W = .ok (.slice (some ⟨W.heap.size, 0, none⟩) 0 n) (W.alloc (.cells (cellsS n) 182)) := fun W => make_S n (by omega) W
   have mkI : ∀ W, (Instr.makeSlice 48 (.int .i64 (n : Int)) (.int .i64 (n : Int))).run Tryz.prog W = .ok (.slice (some ⟨W.heap.size, 0, none⟩) n n) (W.alloc (.cells (cellsI n) 3)) := fun W => make_I n (by omega) W
   have tl1 : t < w1.heap.size := hT1.box.lt
   have nn := World.new_ne w1 _ c0
   have HT1 := Veil.mk hT1
   clear hT1
   go_region
   ·have hF := fresh_a (n := n) HT1.out (by omega)
    obtain ⟨W2, hW2⟩ : ∃ W : World, W = (((((w1.setCell ⟨t, 0, none⟩ (.slice (some ⟨w1.heap.size, 0, none⟩) 0 n)).setCell ⟨t, 1, none⟩ (.slice (some ⟨w1.heap.size + 1, 0, none⟩) n n)).alloc (.cells (cellsS n) 182)).alloc (.cells (cellsI n) 3))).drew := ⟨_, rfl⟩
    rw [<- hW2] at hF ⊢
    clear hW2 mkS mkI c0 c1 f0 f1 tl1 nn t0 t2 HT HM
    have HF := Veil.mk hF
    clear hF
    go_wp2
    go_loopw [33] (fun i wr => ∃ k : Nat, k <= T.sl.length /\ i = .int .i64 (k : Int) /\ TabPost B t (buildT n (T.cur.map (moved T.sl)) T.cnt (liveL (T.sl.take k))) (FootR t (moveT T T.cur.length) vc) w1 wr) (fun i _ => T.sl.length - (intOf i).toNat)
    case atStart => exact ⟨0, Nat.zero_le _, rfl, by rw [<- moved_all]; exact HF.out⟩
    case round =>
     obtain ⟨k, hk, rfl, hrel⟩ := hrel
     by_cases hp : k < T.sl.length
     ·obtain ⟨gs, rfl⟩ := hgs2 (by omega)
      have hsp : T.sl[k]? = some T.sl[k] := List.getElem?_eq_getElem hp
      have hmem : T.sl[k] ∈ T.sl := List.getElem_mem hp
      have htk : T.sl.take (k + 1) = T.sl.take k ++ [T.sl[k]] := by rw [List.take_add_one, hsp]; rfl
      generalize T.sl[k] = s at hsp hmem htk
      obtain ⟨vs', vb', vc', hTk, tk, sk⟩ := hrel
      have hsl : SlotAt wr gs k s := SlotAt.touch (TabAt.slot HT1.out k s hsp) tk (own_lt HT1.out.os gs rfl).2 (fun e => FootR.old HT1.out e gs rfl rfl)
      obtain ⟨k0, k1, k2, v0, v1, v2, ff, fl, fn⟩ := hsl
      obtain ⟨e1, e2, e3, _⟩ := buildT_same n (T.cur.map (moved T.sl)) T.cnt (liveL (T.sl.take k))
      have e4 := buildT_len n (T.cur.map (moved T.sl)) T.cnt (liveL (T.sl.take k))
      have e5 := buildT_hs n (T.cur.map (moved T.sl)) T.cnt (liveL (T.sl.take k))
      have e6 : (liveL (T.sl.take k)).length <= k := Nat.le_trans (List.length_filter_le _ _) (List.length_take_le _ _)
      have hfin : s.live = true -> addT (buildT n (T.cur.map (moved T.sl)) T.cnt (liveL (T.sl.take k))) s = buildT n (T.cur.map (moved T.sl)) T.cnt (liveL (T.sl.take (k + 1))) := fun h => by rw [htk, liveL_snoc, if_pos h, buildT_snoc]
      have hfin0 : s.live = false -> buildT n (T.cur.map (moved T.sl)) T.cnt (liveL (T.sl.take (k + 1))) = buildT n (T.cur.map (moved T.sl)) T.cnt (liveL (T.sl.take k)) := fun h => by rw [htk, liveL_snoc, if_neg (by rw [h]; simp)]
      have HFI := Veil.mk hfin
      have HFI0 := Veil.mk hfin0
      have hks := HKEY.out s hmem
      have hadd := fun (hl : s.live = true) W (hb : Below wr.heap.size wr W) => add_any B t (buildT n (T.cur.map (moved T.sl)) T.cnt (liveL (T.sl.take k))) vs' vb' vc' j hj30 (by rw [e1]; exact HN.out) e5 (by rw [e4]; omega) s (hks hl) W (hTk.on hb)
      have HADD := Veil.mk hadd
      have HTK := Veil.mk hTk
      have HTT := Veil.mk tk
      have HSK := Veil.mk sk
      have i0 : (0 : Int) <= (k : Int) := by omega
      have i1 : (k : Int) < (T.sl.length : Int) := by omega
      have i2 : IntKind.i64.wrap ((k : Int) + 1) = (k : Int) + 1 := IntWalk.i64_in _ (by omega)
      clear hsp hmem htk hTk tk sk e1 e2 e3 e4 e5 e6 hfin hfin0 hks hadd
      obtain ⟨⟨sk0, sk1, sk2⟩, ⟨sv0, sv1, sv2⟩, sf, sl, sn⟩ := s
      dsimp only at k0 k1 k2 v0 v1 v2 ff fl fn
      have hbb : Below wr.heap.size wr (wr.alloc (.cells #[.int .i64 sk0, .int .i64 sk1, .string sk2, .int .i64 sv0, .int .i64 sv1, .string sv2, .int .i64 sf, .bool sl, .int .i64 (sn : Int)] 182)) := (Below.refl _ _).alloc (Nat.le_refl _) _
      have HBB := Veil.mk hbb
      clear hbb
      rcases sl with _ | _
      ·have HR : Veil (TabPost B t (buildT n (T.cur.map (moved T.sl)) T.cnt (liveL (T.sl.take (k + 1)))) (FootR t (moveT T T.cur.length) vc) w1 (wr.alloc (.cells #[.int .i64 sk0, .int .i64 sk1, .string sk2, .int .i64 sv0, .int .i64 sv1, .string sv2, .int .i64 sf, .bool false, .int .i64 (sn : Int)] 182))) := ⟨by rw [HFI0.out rfl]; exact ⟨vs', vb', vc', HTK.out.on HBB.out, HTT.out.trans (Touch.of_below HBB.out), HSK.out⟩⟩
       go_wp2
       exact ⟨⟨k + 1, by omega, by go_num, HR.out⟩, by simp [intOf]; omega⟩
      ·have HC := HADD.out rfl _ HBB.out
       go_wp2_with (first | (go_at_call 102; ((with_reducible refine HC.mono ?_); rintro e w3 ⟨rfl, hpost⟩)))
       rw [HFI.out (by trivial)] at hpost
       exact ⟨⟨k + 1, by omega, by go_num, TabPost.step HTK.out HTT.out HSK.out (TabPost.before hpost HBB.out)⟩, by simp [intOf]; omega⟩
     ·obtain rfl : k = T.sl.length := by omega
      have hlt' : ¬ (T.sl.length : Int) < (T.sl.length : Int) := by omega
      have HR : Veil (RePost B t T (Foot t T (.slice sa T.sl.length cs) vb vc) w wr) := ⟨by
       rw [List.take_length] at hrel
       obtain ⟨vs', vb', vc', hTk, tk, sk⟩ := hrel
       have hre : buildT n (T.cur.map (moved T.sl)) T.cnt (liveL T.sl) = reT T j := by unfold reT; rw [HN.out]
       rw [hre] at hTk sk
       refine ⟨j, hj, hj30, by rw [<- HN.out]; omega, vs', vb', vc', hTk, htc1.comp tk (fun k hk => .inl (FootR.foot _ _ hk)), fun k hk => (sk k hk).imp (FootR.foot _ _) (fun h => Nat.le_trans htc1.size h)⟩⟩
      go_wp2
      go_end0
      exact ⟨rfl, HR.out⟩
   ·have hF := fresh_b (n := n) HT1.out (by omega)
    obtain ⟨W2, hW2⟩ : ∃ W : World, W = (((((w1.setCell ⟨t, 0, none⟩ (.slice (some ⟨w1.heap.size + 1, 0, none⟩) 0 n)).setCell ⟨t, 1, none⟩ (.slice (some ⟨w1.heap.size, 0, none⟩) n n)).alloc (.cells (cellsI n) 3)).alloc (.cells (cellsS n) 182))).drew := ⟨_, rfl⟩
    rw [<- hW2] at hF ⊢
    clear hW2 mkS mkI c0 c1 f0 f1 tl1 nn t0 t2 HT HM
    have HF := Veil.mk hF
    clear hF
    go_wp2
    go_loopw [33] (fun i wr => ∃ k : Nat, k <= T.sl.length /\ i = .int .i64 (k : Int) /\ TabPost B t (buildT n (T.cur.map (moved T.sl)) T.cnt (liveL (T.sl.take k))) (FootR t (moveT T T.cur.length) vc) w1 wr) (fun i _ => T.sl.length - (intOf i).toNat)
    case atStart => exact ⟨0, Nat.zero_le _, rfl, by rw [<- moved_all]; exact HF.out⟩
    case round =>
     obtain ⟨k, hk, rfl, hrel⟩ := hrel
     by_cases hp : k < T.sl.length
     ·obtain ⟨gs, rfl⟩ := hgs2 (by omega)
      have hsp : T.sl[k]? = some T.sl[k] := List.getElem?_eq_getElem hp
      have hmem : T.sl[k] ∈ T.sl := List.getElem_mem hp
      have htk : T.sl.take (k + 1) = T.sl.take k ++ [T.sl[k]] := by rw [List.take_add_one, hsp]; rfl
      generalize T.sl[k] = s at hsp hmem htk
      obtain ⟨vs', vb', vc', hTk, tk, sk⟩ := hrel
      have hsl : SlotAt wr gs k s := SlotAt.touch (TabAt.slot HT1.out k s hsp) tk (own_lt HT1.out.os gs rfl).2 (fun e => FootR.old HT1.out e gs rfl rfl)
      obtain ⟨k0, k1, k2, v0, v1, v2, ff, fl, fn⟩ := hsl
      obtain ⟨e1, e2, e3, _⟩ := buildT_same n (T.cur.map (moved T.sl)) T.cnt (liveL (T.sl.take k))
      have e4 := buildT_len n (T.cur.map (moved T.sl)) T.cnt (liveL (T.sl.take k))
      have e5 := buildT_hs n (T.cur.map (moved T.sl)) T.cnt (liveL (T.sl.take k))
      have e6 : (liveL (T.sl.take k)).length <= k := Nat.le_trans (List.length_filter_le _ _) (List.length_take_le _ _)
      have hfin : s.live = true -> addT (buildT n (T.cur.map (moved T.sl)) T.cnt (liveL (T.sl.take k))) s = buildT n (T.cur.map (moved T.sl)) T.cnt (liveL (T.sl.take (k + 1))) := fun h => by rw [htk, liveL_snoc, if_pos h, buildT_snoc]
      have hfin0 : s.live = false -> buildT n (T.cur.map (moved T.sl)) T.cnt (liveL (T.sl.take (k + 1))) = buildT n (T.cur.map (moved T.sl)) T.cnt (liveL (T.sl.take k)) := fun h => by rw [htk, liveL_snoc, if_neg (by rw [h]; simp)]
      have HFI := Veil.mk hfin
      have HFI0 := Veil.mk hfin0
      have hks := HKEY.out s hmem
      have hadd := fun (hl : s.live = true) W (hb : Below wr.heap.size wr W) => add_any B t (buildT n (T.cur.map (moved T.sl)) T.cnt (liveL (T.sl.take k))) vs' vb' vc' j hj30 (by rw [e1]; exact HN.out) e5 (by rw [e4]; omega) s (hks hl) W (hTk.on hb)
      have HADD := Veil.mk hadd
      have HTK := Veil.mk hTk
      have HTT := Veil.mk tk
      have HSK := Veil.mk sk
      have i0 : (0 : Int) <= (k : Int) := by omega
      have i1 : (k : Int) < (T.sl.length : Int) := by omega
      have i2 : IntKind.i64.wrap ((k : Int) + 1) = (k : Int) + 1 := IntWalk.i64_in _ (by omega)
      clear hsp hmem htk hTk tk sk e1 e2 e3 e4 e5 e6 hfin hfin0 hks hadd
      obtain ⟨⟨sk0, sk1, sk2⟩, ⟨sv0, sv1, sv2⟩, sf, sl, sn⟩ := s
      dsimp only at k0 k1 k2 v0 v1 v2 ff fl fn
      have hbb : Below wr.heap.size wr (wr.alloc (.cells #[.int .i64 sk0, .int .i64 sk1, .string sk2, .int .i64 sv0, .int .i64 sv1, .string sv2, .int .i64 sf, .bool sl, .int .i64 (sn : Int)] 182)) := (Below.refl _ _).alloc (Nat.le_refl _) _
      have HBB := Veil.mk hbb
      clear hbb
      rcases sl with _ | _
      ·have HR : Veil (TabPost B t (buildT n (T.cur.map (moved T.sl)) T.cnt (liveL (T.sl.take (k + 1)))) (FootR t (moveT T T.cur.length) vc) w1 (wr.alloc (.cells #[.int .i64 sk0, .int .i64 sk1, .string sk2, .int .i64 sv0, .int .i64 sv1, .string sv2, .int .i64 sf, .bool false, .int .i64 (sn : Int)] 182))) := ⟨by rw [HFI0.out rfl]; exact ⟨vs', vb', vc', HTK.out.on HBB.out, HTT.out.trans (Touch.of_below HBB.out), HSK.out⟩⟩
       go_wp2
       exact ⟨⟨k + 1, by omega, by go_num, HR.out⟩, by simp [intOf]; omega⟩
      ·have HC := HADD.out rfl _ HBB.out
       go_wp2_with (first | (go_at_call 102; ((with_reducible refine HC.mono ?_); rintro e w3 ⟨rfl, hpost⟩)))
       rw [HFI.out (by trivial)] at hpost
       exact ⟨⟨k + 1, by omega, by go_num, TabPost.step HTK.out HTT.out HSK.out (TabPost.before hpost HBB.out)⟩, by simp [intOf]; omega⟩
     ·obtain rfl : k = T.sl.length := by omega
      have hlt' : ¬ (T.sl.length : Int) < (T.sl.length : Int) := by omega
      have HR : Veil (RePost B t T (Foot t T (.slice sa T.sl.length cs) vb vc) w wr) := ⟨by
       rw [List.take_length] at hrel
       obtain ⟨vs', vb', vc', hTk, tk, sk⟩ := hrel
       have hre : buildT n (T.cur.map (moved T.sl)) T.cnt (liveL T.sl) = reT T j := by unfold reT; rw [HN.out]
       rw [hre] at hTk sk
       refine ⟨j, hj, hj30, by rw [<- HN.out]; omega, vs', vb', vc', hTk, htc1.comp tk (fun k hk => .inl (FootR.foot _ _ hk)), fun k hk => (sk k hk).imp (FootR.foot _ _) (fun h => Nat.le_trans htc1.size h)⟩⟩
      go_wp2
      go_end0
      exact ⟨rfl, HR.out⟩
abbrev En := Vt × Vt × Int
abbrev Ob := List En × List (Nat × List En)
def obs (T : Tab) : Ob := (ents T.sl, T.cur.map fun c => (c.1, ents (T.sl.drop c.2)))
structure Good (T : Tab) : Prop where
 inv : Inv T
 slack : T.sl.length <= 2 * T.cnt + 8
 cat : ∀ c ∈ T.cur, c.2 <= T.sl.length
theorem ents_app (a b : List Sl) : ents (a ++ b) = ents a ++ ents b := by simp [ents]
theorem ents_len (l : List Sl) : (ents l).length = cntL l := by simp [ents, cntL]
theorem ents_drop (l : List Sl) (c : Nat) : (ents l).drop (cntL (l.take c)) = ents (l.drop c) := by
 have h : ents l = ents (l.take c) ++ ents (l.drop c) := by rw [<- ents_app, List.take_append_drop]
 rw [h, <- ents_len, List.drop_left]
theorem ents_live (l : List Sl) : ents (liveL l) = ents l := by simp [ents, liveL]
theorem ents_same {a b : List Sl} (h : a.map (fun s => (s.key, s.val, s.fl, s.live)) = b.map (fun s => (s.key, s.val, s.fl, s.live))) : ents a = ents b := by
 induction a generalizing b with
 | nil => cases b with
  | nil => rfl
  | cons y b => simp at h
 | cons x a ih => cases b with
  | nil => simp at h
  | cons y b =>
   simp only [List.map_cons, List.cons.injEq] at h
   obtain ⟨h1, h2⟩ := h
   have e := ih h2
   simp only [Prod.mk.injEq] at h1
   obtain ⟨h1, h3, h4, h5⟩ := h1
   have c1 : ents (x :: a) = (if x.live then [ent x] else []) ++ ents a := by unfold ents; cases hx : x.live <;> simp [List.filter, hx]
   have c2 : ents (y :: b) = (if y.live then [ent y] else []) ++ ents b := by unfold ents; cases hy : y.live <;> simp [List.filter, hy]
   rw [c1, c2, e, h5]
   unfold ent
   rw [h1, h3, h4]
theorem same_drop {a b : List Sl} (h : a.map (fun s => (s.key, s.val, s.fl, s.live)) = b.map (fun s => (s.key, s.val, s.fl, s.live))) (c : Nat) : (a.drop c).map (fun s => (s.key, s.val, s.fl, s.live)) = (b.drop c).map (fun s => (s.key, s.val, s.fl, s.live)) := by
 rw [List.map_drop, List.map_drop, h]
theorem cnt_live (T : Tab) (h : Inv T) : (liveL T.sl).length = T.cnt := h.cnt.symm
theorem liveL_all (l : List Sl) : ∀ s ∈ liveL l, s.live = true /\ s ∈ l := fun s hs => by
 have := List.mem_filter.1 hs
 exact ⟨this.2, this.1⟩
theorem obs_re (T : Tab) (j : Nat) : obs (reT T j) = obs T := by
 obtain ⟨e1, e2, e3, e4⟩ := buildT_same (2 ^ j) (T.cur.map (moved T.sl)) T.cnt (liveL T.sl)
 unfold obs
 have h1 : (reT T j).cur = T.cur.map (moved T.sl) := e3
 have h2 : ents (reT T j).sl = ents T.sl := (ents_same e4).trans (ents_live _)
 rw [h1, h2, List.map_map]
 congr 1
 apply List.map_congr_left
 intro c _
 show (c.1, ents ((reT T j).sl.drop (cntL (T.sl.take c.2)))) = _
 have h3 : ents ((reT T j).sl.drop (cntL (T.sl.take c.2))) = ents ((liveL T.sl).drop (cntL (T.sl.take c.2))) := ents_same (same_drop e4 _)
 rw [h3]
 congr 1
 have := ents_drop T.sl c.2
 rw [<- this, <- ents_live T.sl]
 have key : ∀ (l : List Sl) n, (∀ s ∈ l, s.live = true) -> ents (l.drop n) = (ents l).drop n := fun l n hl => by
  have f1 : l.filter (fun s => s.live) = l := List.filter_eq_self.2 (by simpa using hl)
  have f2 : (l.drop n).filter (fun s => s.live) = l.drop n := List.filter_eq_self.2 (fun s hs => by simpa using hl s (List.mem_of_mem_drop hs))
  unfold ents
  rw [f1, f2, List.map_drop]
 exact key _ _ (fun s hs => (liveL_all T.sl s hs).1)
theorem uniq_live {T : Tab} (h : Inv T) : ∀ (i j : Nat) s t, (liveL T.sl)[i]? = some s -> (liveL T.sl)[j]? = some t -> s.key = t.key -> i = j := by
 have key : ∀ (l : List Sl), (∀ (i j : Nat) s t, l[i]? = some s -> l[j]? = some t -> s.live = true -> t.live = true -> s.key = t.key -> i = j) -> ∀ (i j : Nat) s t, (liveL l)[i]? = some s -> (liveL l)[j]? = some t -> s.key = t.key -> i = j := by
  refine snoc_ind (fun _ i j s t hs => by simp [liveL] at hs) (fun l x ih hu => ?_)
  have hu' := ih (fun i j s t hi hj h1 h2 e => hu i j s t (by rw [List.getElem?_append_left (List.getElem?_eq_some_iff.1 hi).1]; exact hi) (by rw [List.getElem?_append_left (List.getElem?_eq_some_iff.1 hj).1]; exact hj) h1 h2 e)
  rw [liveL_snoc]
  split
  ·rename_i hx
   have away : ∀ (i : Nat) s, (liveL l)[i]? = some s -> s.key = x.key -> False := fun i s hs e => by
    obtain ⟨h1, h2⟩ := liveL_all l s (List.mem_of_getElem? hs)
    obtain ⟨m, hm⟩ := List.mem_iff_getElem?.1 h2
    have hml := (List.getElem?_eq_some_iff.1 hm).1
    have := hu m l.length s x (by rw [List.getElem?_append_left hml]; exact hm) (by simp) h1 hx e
    omega
   intro i j s t hi hj e
   rcases get_snoc hi with ⟨hi2, _⟩ | ⟨hi2, hs2⟩
   ·rcases get_snoc hj with ⟨hj2, _⟩ | ⟨hj2, ht2⟩
    ·exact hu' i j s t hi2 hj2 e
    ·exact (away i s hi2 (by rw [e, ht2])).elim
   ·rcases get_snoc hj with ⟨hj2, _⟩ | ⟨hj2, ht2⟩
    ·exact (away j t hj2 (by rw [<- e, hs2])).elim
    ·rw [hi2, hj2]
  ·exact hu'
 exact key T.sl h.uniq
theorem re_good {T : Tab} (h : Inv T) (j : Nat) (h1 : 1 <= j) (h2 : j <= 30) (h3 : 2 * T.cnt <= 2 ^ j) : Good (reT T j) /\ (reT T j).sl.length = T.cnt /\ (reT T j).cnt = T.cnt /\ (reT T j).nb = 2 ^ j := by
 obtain ⟨e1, e2, e3, e4⟩ := buildT_same (2 ^ j) (T.cur.map (moved T.sl)) T.cnt (liveL T.sl)
 have e5 := buildT_len (2 ^ j) (T.cur.map (moved T.sl)) T.cnt (liveL T.sl)
 have e6 := cnt_live T h
 have hp := buildT_pre (2 ^ j) (T.cur.map (moved T.sl)) T.cnt ⟨j, h1, h2, rfl⟩ (liveL T.sl) (fun s hs => by
  obtain ⟨a, b⟩ := liveL_all T.sl s hs
  obtain ⟨i, hi⟩ := List.mem_iff_getElem?.1 b
  exact ⟨a, (h.live i s hi a).2⟩) (uniq_live h)
 have hl : (reT T j).sl.length = T.cnt := e5.trans e6
 have hc : (reT T j).cnt = T.cnt := e2
 have hnb : (reT T j).nb = 2 ^ j := e1
 refine ⟨⟨Pre.inv hp (by show (reT T j).sl.length <= (reT T j).nb; omega) ?_, by omega, ?_⟩, hl, hc, hnb⟩
 ·show (reT T j).cnt = cntL (reT T j).sl
  have : ents (reT T j).sl = ents T.sl := (ents_same e4).trans (ents_live _)
  rw [hc, <- ents_len, this, ents_len]
  exact h.cnt
 ·intro c hc'
  have h1 : (reT T j).cur = T.cur.map (moved T.sl) := e3
  rw [h1] at hc'
  obtain ⟨d, _, rfl⟩ := List.mem_map.1 hc'
  rw [hl, h.cnt]
  show cntL (T.sl.take d.2) <= cntL T.sl
  rw [<- ents_len, <- ents_len]
  have : ents T.sl = ents (T.sl.take d.2) ++ ents (T.sl.drop d.2) := by rw [<- ents_app, List.take_append_drop]
  rw [this, List.length_append]; omega
def updL (k v : Vt) (f : Int) (l : List En) : List En := l.map fun e => if e.1 = k then (k, v, f) else e
def hasK (l : List En) (k : Vt) : Prop := ∃ e ∈ l, e.1 = k
instance (l : List En) (k : Vt) : Decidable (hasK l k) := by unfold hasK; exact inferInstance
def putO (O : Ob) (k v : Vt) (f : Int) : Ob := if hasK O.1 k then (updL k v f O.1, O.2.map fun c => (c.1, updL k v f c.2)) else (O.1 ++ [(k, v, f)], O.2.map fun c => (c.1, c.2 ++ [(k, v, f)]))
theorem hasK_found (T : Tab) (k : Vt) : hasK (obs T).1 k ↔ ∃ i, Found T.sl k i := by
 constructor
 ·rintro ⟨e, he, hk⟩
  obtain ⟨s, hs, rfl⟩ := List.mem_map.1 he
  obtain ⟨h1, h2⟩ := List.mem_filter.1 hs
  obtain ⟨i, hi⟩ := List.mem_iff_getElem?.1 h1
  exact ⟨i, s, hi, h2, hk⟩
 ·rintro ⟨i, s, hi, h2, hk⟩
  exact ⟨ent s, List.mem_map.2 ⟨s, List.mem_filter.2 ⟨List.mem_of_getElem? hi, h2⟩, rfl⟩, hk⟩
theorem set_map {T : Tab} (h : Inv T) (i : Nat) (s : Sl) (hs : T.sl[i]? = some s) (hl : s.live = true) (g : Sl -> Sl) : T.sl.set i (g s) = T.sl.map (fun x => if x.live = true /\ x.key = s.key then g x else x) := by
 apply List.ext_getElem?
 intro m
 rw [List.getElem?_map]
 by_cases e : i = m
 ·subst e
  rw [List.getElem?_set_self (List.getElem?_eq_some_iff.1 hs).1, hs]
  simp [hl]
 ·rw [List.getElem?_set_ne e]
  cases hm : T.sl[m]? with
  | none => rfl
  | some x =>
   simp only [Option.map_some]
   rw [if_neg]
   rintro ⟨h1, h2⟩
   exact e (h.uniq i m s x hs hm hl h1 h2.symm)
theorem ents_put (l : List Sl) (k v : Vt) (f : Int) : ents (l.map (fun x => if x.live = true /\ x.key = k then { x with val := v, fl := f } else x)) = updL k v f (ents l) := by
 induction l with
 | nil => rfl
 | cons x l ih =>
  have c1 : ∀ (y : Sl) (l : List Sl), ents (y :: l) = (if y.live then [ent y] else []) ++ ents l := fun y l => by unfold ents; cases hy : y.live <;> simp [List.filter, hy]
  rw [List.map_cons, c1, c1, ih]
  unfold updL
  rw [List.map_append]
  congr 1
  obtain ⟨k0, v0, f0, l0, n0⟩ := x
  cases l0
  ·simp
  ·by_cases hk : k0 = k
   ·subst hk; simp [ent]
   ·simp [ent, hk]
theorem obs_set (T : Tab) (h : Inv T) (i : Nat) (s : Sl) (hs : T.sl[i]? = some s) (hl : s.live = true) (v : Vt) (f : Int) :
  obs { T with sl := T.sl.set i { s with val := v, fl := f } } = putO (obs T) s.key v f := by
 have e := set_map h i s hs hl (fun x => { x with val := v, fl := f })
 unfold putO
 rw [if_pos ((hasK_found T s.key).2 ⟨i, s, hs, hl, rfl⟩)]
 unfold obs
 show (ents (T.sl.set i { s with val := v, fl := f }), T.cur.map fun c => (c.1, ents ((T.sl.set i { s with val := v, fl := f }).drop c.2))) = _
 rw [e, ents_put, List.map_map]
 congr 1
 apply List.map_congr_left
 intro c _
 show (c.1, ents ((T.sl.map _).drop c.2)) = (c.1, updL s.key v f (ents (T.sl.drop c.2)))
 rw [<- List.map_drop, ents_put]
theorem obs_add (T : Tab) (hc : ∀ c ∈ T.cur, c.2 <= T.sl.length) (s : Sl) (hl : s.live = true) (n : Nat) (hno : ∀ i, ¬ Found T.sl s.key i) : obs { addT T s with cnt := n } = putO (obs T) s.key s.val s.fl := by
 unfold putO
 rw [if_neg (fun h => by obtain ⟨i, hi⟩ := (hasK_found T s.key).1 h; exact hno i hi)]
 have one : ∀ x : Sl, x.live = true -> ents [x] = [ent x] := fun x hx => by simp [ents, hx]
 obtain ⟨s', hs'⟩ : ∃ s' : Sl, s' = { s with next := lastB T.hs (bucketOf T.nb s.key) } := ⟨_, rfl⟩
 have e : obs { addT T s with cnt := n } = (ents (T.sl ++ [s']), T.cur.map fun c => (c.1, ents ((T.sl ++ [s']).drop c.2))) := by rw [hs']; rfl
 have o : ents [s'] = [(s.key, s.val, s.fl)] := by rw [one s' (by rw [hs']; exact hl), hs']; rfl
 rw [e, ents_app, o]
 unfold obs
 rw [List.map_map]
 congr 1
 apply List.map_congr_left
 intro c hcm
 show (c.1, ents ((T.sl ++ [s']).drop c.2)) = (c.1, ents (T.sl.drop c.2) ++ [(s.key, s.val, s.fl)])
 rw [List.drop_append_of_le_length (hc c hcm), ents_app, o]
theorem cntL_add (T : Tab) (s : Sl) (hl : s.live = true) : cntL (addT T s).sl = cntL T.sl + 1 := by
 show cntL (T.sl ++ [_]) = _
 rw [cntL_snoc, if_pos hl]
theorem cntL_set (T : Tab) (h : Inv T) (i : Nat) (s : Sl) (hs : T.sl[i]? = some s) (hl : s.live = true) (v : Vt) (f : Int) : cntL (T.sl.set i { s with val := v, fl := f }) = cntL T.sl := by
 rw [<- ents_len, <- ents_len]
 have := congrArg (fun o : Ob => o.1.length) (obs_set T h i s hs hl v f)
 unfold putO at this
 rw [if_pos ((hasK_found T s.key).2 ⟨i, s, hs, hl, rfl⟩)] at this
 simpa [obs, updL] using this
theorem good_set (T : Tab) (h : Good T) (i : Nat) (s : Sl) (hs : T.sl[i]? = some s) (hl : s.live = true) (v : Vt) (f : Int) : Good { T with sl := T.sl.set i { s with val := v, fl := f } } := by
 have hp := h.inv.pre.set i s { s with val := v, fl := f } T.cnt hs rfl (fun _ => ⟨hl, rfl⟩)
 refine ⟨hp.inv (by show (T.sl.set i _).length <= T.nb; rw [List.length_set]; exact h.inv.cap) ?_, by show (T.sl.set i _).length <= _; rw [List.length_set]; exact h.slack, fun c hc => by show c.2 <= (T.sl.set i _).length; rw [List.length_set]; exact h.cat c hc⟩
 show T.cnt = cntL (T.sl.set i _)
 rw [cntL_set T h.inv i s hs hl]
 exact h.inv.cnt
theorem good_add (T : Tab) (h : Good T) (s : Sl) (hl : s.live = true) (hroom : T.sl.length < T.nb) (hk : keyT s.key = s.key) (hz : s.key.2.2.size <= 1000) (hno : ∀ i, ¬ Found T.sl s.key i) : Good { addT T s with cnt := T.cnt + 1 } := by
 have hp := h.inv.pre.add s (by omega) (fun _ => ⟨hk, hz, hno⟩)
 have hp' : Pre { addT T s with cnt := T.cnt + 1 } := ⟨hp.hlen, hp.nb, hp.next, hp.live, hp.uniq, hp.hlt⟩
 have hlen : (addT T s).sl.length = T.sl.length + 1 := by simp [addT]
 refine ⟨hp'.inv (by show (addT T s).sl.length <= T.nb; omega) ?_, ?_, ?_⟩
 ·show T.cnt + 1 = cntL (addT T s).sl
  rw [cntL_add T s hl]
  have := h.inv.cnt
  unfold cntL; omega
 ·show (addT T s).sl.length <= 2 * (T.cnt + 1) + 8
  have := h.slack; omega
 ·intro c hc
  have := h.cat c hc
  show c.2 <= (addT T s).sl.length
  omega
theorem find_all (B t : Nat) (T : Tab) (vs vb vc : Value) (hG : Inv T) (k : Vt) (hk : k.2.2.size <= 1000) (w : World) (h : TabAt w B t T vs vb vc) :
  Calls Tryz.prog 100 #[.pointer (some ⟨t, 0, none⟩), valV k] w (FindPost T k w) := by
 rcases Nat.eq_zero_or_pos T.nb with h0 | hpos
 ·obtain ⟨ab, cb, rfl, hcb, hgb, hmb⟩ := slice_own h.ob
  have hb := h.box
  rw [h0] at hb
  exact find_empty t cb ab vs (.int .i64 (T.cnt : Int)) vc T (List.eq_nil_of_length_eq_zero (by have := hG.cap; omega)) k w hb
 ·exact find_any B t T vs vb vc hG hpos k hk w h
theorem keyT_size2 (x : Vt) (h : x.2.2.size <= 1000) : (keyT x).2.2.size <= 1000 := by
 unfold keyT
 split
 ·exact Nat.zero_le _
 ·exact h
theorem slFlat_setc : ∀ (l : List Sl) (i c : Nat) (s s' : Sl) (u : Value), l[i]? = some s -> c < 9 -> (slCells s).set c u = slCells s' -> (slFlat l).set (i * 9 + c) u = slFlat (l.set i s')
 | [], i, c, s, s', u, h, _, _ => by simp at h
 | x :: l, 0, c, s, s', u, h, hc, he => by
  simp at h; subst h
  show (slCells x ++ slFlat l).set (0 * 9 + c) u = slCells s' ++ slFlat l
  rw [Nat.zero_mul, Nat.zero_add, List.set_append_left _ _ (by simpa [slCells] using hc), he]
 | x :: l, i + 1, c, s, s', u, h, hc, he => by
  have h' : l[i]? = some s := by simpa using h
  show (slCells x ++ slFlat l).set ((i + 1) * 9 + c) u = slCells x ++ slFlat (l.set i s')
  rw [List.set_append_right _ _ (by simp [slCells]; omega), <- slFlat_setc l i c s s' u h' hc he]
  congr 2
  simp [slCells]; omega
theorem own_putN {w : World} {B g n cap size : Nat} {e : TypeId} {xs : List Value} (h : w.ownsRow B e size (.slice (some ⟨g, 0, none⟩) n cap) n xs) (i : Nat) (u : Value) : (w.setCell ⟨g, i, none⟩ u).ownsRow B e size (.slice (some ⟨g, 0, none⟩) n cap) n (xs.set i u) := by
 refine ⟨by rw [List.length_set]; exact h.1, ?_⟩
 rcases h.2 with ⟨h1, _⟩ | ⟨g', cap', cur, h1, h2, h3, h4, h5, h6, h7⟩
 ·cases h1
 ·cases h1
  refine .inr ⟨g, cap, cur.setIfInBounds i u, rfl, h2, ?_, h4, h5, by rw [Array.size_setIfInBounds]; exact h6, ?_⟩
  ·show (w.heap.modify g _)[g]? = _
   simp [Array.getElem?_modify, h3]
  ·rw [Array.toList_setIfInBounds, List.take_set, h7]
theorem TabAt.setSlot {w : World} {B t g n cap : Nat} {T : Tab} {vb vc : Value} (h : TabAt w B t T (.slice (some ⟨g, 0, none⟩) n cap) vb vc) (i c : Nat) (s s' : Sl) (u : Value) (hs : T.sl[i]? = some s) (hc : c < 9) (he : (slCells s).set c u = slCells s') :
  TabAt (w.setCell ⟨g, i * 9 + c, none⟩ u) B t { T with sl := T.sl.set i s' } (.slice (some ⟨g, 0, none⟩) n cap) vb vc := by
 obtain ⟨ao, cp, e, hcp, _, _⟩ := slice_own h.os
 cases e
 have hlab := own_lab h.os g rfl
 have tp : Touch (fun k => k = g) w (w.setCell ⟨g, i * 9 + c, none⟩ u) := Touch.put (S := fun k => k = g) rfl _ _
 have hi := (List.getElem?_eq_some_iff.1 hs).1
 refine ⟨h.box.touch tp (fun e => (h.box.lab.ne hlab (by decide)) e), ?_, own_touch h.ob tp (fun k hk e => ((own_lab h.ob k hk).ne hlab (by decide)) e), own_touch h.oc tp (fun k hk e => ((own_lab h.oc k hk).ne hlab (by decide)) e), fun j d hd => ⟨(h.cs j d hd).1, (h.cs j d hd).2.touch tp (fun e => ((h.cs j d hd).2.lab.ne hlab (by decide)) e)⟩, h.bt⟩
 have := own_putN h.os (i * 9 + c) u
 rw [slFlat_setc T.sl i c s s' u hs hc he] at this
 show World.ownsRow _ B _ 9 _ (T.sl.set i s').length (slFlat (T.sl.set i s'))
 rw [List.length_set]
 exact this
theorem TabAt.setVF {w : World} {B t g n cap : Nat} {T : Tab} {vb vc : Value} (h : TabAt w B t T (.slice (some ⟨g, 0, none⟩) n cap) vb vc) (i : Nat) (s : Sl) (v : Vt) (f : Int) (hs : T.sl[i]? = some s) :
  TabAt ((((w.setCell ⟨g, i * 9 + 3, none⟩ (.int .i64 v.1)).setCell ⟨g, i * 9 + 4, none⟩ (.int .i64 v.2.1)).setCell ⟨g, i * 9 + 5, none⟩ (.string v.2.2)).setCell ⟨g, i * 9 + 6, none⟩ (.int .i64 f)) B t { T with sl := T.sl.set i { s with val := v, fl := f } } (.slice (some ⟨g, 0, none⟩) n cap) vb vc := by
 have hi := (List.getElem?_eq_some_iff.1 hs).1
 have h1 := h.setSlot i 3 s { s with val := (v.1, s.val.2) } (.int .i64 v.1) hs (by omega) rfl
 have h2 := h1.setSlot i 4 _ { s with val := (v.1, v.2.1, s.val.2.2) } (.int .i64 v.2.1) (List.getElem?_set_self hi) (by omega) rfl
 have h3 := h2.setSlot i 5 _ { s with val := v } (.string v.2.2) (List.getElem?_set_self (by rw [List.length_set]; exact hi)) (by omega) rfl
 have h4 := h3.setSlot i 6 _ { s with val := v, fl := f } (.int .i64 f) (List.getElem?_set_self (by rw [List.length_set, List.length_set]; exact hi)) (by omega) rfl
 simp only [List.set_set] at h4
 exact h4
theorem TabAt.setFV {w : World} {B t g n cap : Nat} {T : Tab} {vb vc : Value} (h : TabAt w B t T (.slice (some ⟨g, 0, none⟩) n cap) vb vc) (i : Nat) (s : Sl) (v : Vt) (f : Int) (hs : T.sl[i]? = some s) :
  TabAt ((((w.setCell ⟨g, i * 9 + 6, none⟩ (.int .i64 f)).setCell ⟨g, i * 9 + 3, none⟩ (.int .i64 v.1)).setCell ⟨g, i * 9 + 4, none⟩ (.int .i64 v.2.1)).setCell ⟨g, i * 9 + 5, none⟩ (.string v.2.2)) B t { T with sl := T.sl.set i { s with val := v, fl := f } } (.slice (some ⟨g, 0, none⟩) n cap) vb vc := by
 have hi := (List.getElem?_eq_some_iff.1 hs).1
 have h0 := h.setSlot i 6 s { s with fl := f } (.int .i64 f) hs (by omega) rfl
 have h1 := h0.setSlot i 3 _ { s with val := (v.1, s.val.2), fl := f } (.int .i64 v.1) (List.getElem?_set_self hi) (by omega) rfl
 have h2 := h1.setSlot i 4 _ { s with val := (v.1, v.2.1, s.val.2.2), fl := f } (.int .i64 v.2.1) (List.getElem?_set_self (by rw [List.length_set]; exact hi)) (by omega) rfl
 have h3 := h2.setSlot i 5 _ { s with val := v, fl := f } (.string v.2.2) (List.getElem?_set_self (by rw [List.length_set, List.length_set]; exact hi)) (by omega) rfl
 simp only [List.set_set] at h3
 exact h3
theorem TabAt.setCnt {w : World} {B t : Nat} {T : Tab} {vs vb vc : Value} (h : TabAt w B t T vs vb vc) (c : Nat) : TabAt (w.setCell ⟨t, 2, none⟩ (.int .i64 (c : Int))) B t { T with cnt := c } vs vb vc := by
 have tp : Touch (fun k => k = t) w (w.setCell ⟨t, 2, none⟩ (.int .i64 (c : Int))) := Touch.put (S := fun k => k = t) rfl _ _
 exact ⟨h.box.put 2 _, own_touch h.os tp (fun k hk e => ((own_lab h.os k hk).ne h.box.lab (by decide)) e), own_touch h.ob tp (fun k hk e => ((own_lab h.ob k hk).ne h.box.lab (by decide)) e), own_touch h.oc tp (fun k hk e => ((own_lab h.oc k hk).ne h.box.lab (by decide)) e), fun j d hd => ⟨(h.cs j d hd).1, (h.cs j d hd).2.touch tp (fun e => ((h.cs j d hd).2.lab.ne h.box.lab (by decide)) e)⟩, h.bt⟩
structure Mid (B t : Nat) (T : Tab) (F : Nat -> Prop) (kb vb : Nat) (kk v : Vt) (T3 : Tab) (w w3 : World) : Prop where
 good : Good T3
 obs : obs T3 = obs T
 cnt : T3.cnt = T.cnt
 cur : T3.cur.length = T.cur.length
 room : T3.sl.length < T3.nb
 kbox : Box w3 kb 28 #[.int .i64 kk.1, .int .i64 kk.2.1, .string kk.2.2]
 vbox : Box w3 vb 28 #[.int .i64 v.1, .int .i64 v.2.1, .string v.2.2]
 post : TabPost B t T3 F w w3
def PutPost (B t : Nat) (T : Tab) (k v : Vt) (f : Int) (F : Nat -> Prop) (w w' : World) : Prop := ∃ T', Good T' /\ obs T' = putO (obs T) (keyT k) v f /\ T'.cnt <= T.cnt + 1 /\ T'.cur.length = T.cur.length /\ TabPost B t T' F w w'
theorem put_any (B t : Nat) (T : Tab) (vs vb vc : Value) (hG : Good T) (hcnt : T.cnt < 40000) (hcur : T.cur.length < 100000) (k v : Vt) (f : Int) (hk : k.2.2.size <= 1000) (w : World) (h : TabAt w B t T vs vb vc) :
  Calls Tryz.prog 62 #[.pointer (some ⟨t, 0, none⟩), valV k, valV v, .int .i64 f] w fun e w' => e = .returned (.tuple #[]) /\ PutPost B t T k v f (Foot t T vs vb vc) w w' := by
 obtain ⟨W, hW⟩ : ∃ W, W = (w.alloc (.cells #[.int .i64 k.1, .int .i64 k.2.1, .string k.2.2] 28)).alloc (.cells #[.int .i64 v.1, .int .i64 v.2.1, .string v.2.2] 28) := ⟨_, rfl⟩
 have hBW : Below w.heap.size w W := by rw [hW]; exact ((Below.refl _ _).alloc (Nat.le_refl _) _).alloc (by simp) _
 have hK : Box W w.heap.size 28 #[.int .i64 k.1, .int .i64 k.2.1, .string k.2.2] := by rw [hW]; exact (Box.new w _ _).more _
 have hV : Box W (w.heap.size + 1) 28 #[.int .i64 v.1, .int .i64 v.2.1, .string v.2.2] := by
  rw [hW]
  have := Box.new (w.alloc (.cells #[.int .i64 k.1, .int .i64 k.2.1, .string k.2.2] 28)) 28 #[.int .i64 v.1, .int .i64 v.2.1, .string v.2.2]
  rwa [World.size_alloc] at this
 have HW := Veil.mk hW
 have HKEY := Veil.mk (fun w => key_any k w)
 have hk2 := keyT_size2 k hk
 obtain ⟨kk, hkk⟩ : ∃ kk, kk = keyT k := ⟨_, rfl⟩
 have HKK := Veil.mk hkk
 rw [<- hkk] at HKEY hk2
 have hT := h.on hBW
 have hl1 := hK.lt
 have hl2 := hV.lt
 clear hkk hW
 go_enter Tryz.func62, Tryz.ntmps62
 go_upto_region 2 with (fail)
 rw [<- HW.out]
 have x0 : W.cell? ⟨w.heap.size, 0, none⟩ = some (.int .i64 k.1) := hK.at_ 0
 have x1 : W.cell? ⟨w.heap.size, 1, none⟩ = some (.int .i64 k.2.1) := hK.at_ 1
 have x2 : W.cell? ⟨w.heap.size, 2, none⟩ = some (.string k.2.2) := hK.at_ 2
 go_upto_region 3 with (first | (go_at_call 99; ((with_reducible refine (HKEY.out _).mono ?_); rintro e w1 ⟨rfl, hb1⟩; have y0 := (hK.on hb1 hl1).at_ 0; have y1 := (hK.on hb1 hl1).at_ 1; have y2 := (hK.on hb1 hl1).at_ 2; have g0 := (hK.on hb1 hl1).free 0; have g1 := (hK.on hb1 hl1).free 1; have g2 := (hK.on hb1 hl1).free 2)))
 have hbw1 : Below w.heap.size w (((w1.setCell ⟨w.heap.size, 0, none⟩ (.int .i64 kk.1)).setCell ⟨w.heap.size, 1, none⟩ (.int .i64 kk.2.1)).setCell ⟨w.heap.size, 2, none⟩ (.string kk.2.2)) := (((hBW.trans (hb1.mono hBW.size)).setCell (p := ⟨w.heap.size, 0, none⟩) (Nat.le_refl _) _).setCell (p := ⟨w.heap.size, 1, none⟩) (Nat.le_refl _) _).setCell (p := ⟨w.heap.size, 2, none⟩) (Nat.le_refl _) _
 have bk1 : Box (((w1.setCell ⟨w.heap.size, 0, none⟩ (.int .i64 kk.1)).setCell ⟨w.heap.size, 1, none⟩ (.int .i64 kk.2.1)).setCell ⟨w.heap.size, 2, none⟩ (.string kk.2.2)) w.heap.size 28 #[.int .i64 kk.1, .int .i64 kk.2.1, .string kk.2.2] := (((hK.on hb1 hl1).put 0 _).put 1 _).put 2 _
 have bv1 : Box (((w1.setCell ⟨w.heap.size, 0, none⟩ (.int .i64 kk.1)).setCell ⟨w.heap.size, 1, none⟩ (.int .i64 kk.2.1)).setCell ⟨w.heap.size, 2, none⟩ (.string kk.2.2)) (w.heap.size + 1) 28 #[.int .i64 v.1, .int .i64 v.2.1, .string v.2.2] := (hV.on hb1 hl2).touch (S := fun k => k = w.heap.size) (((Touch.put (S := fun k => k = w.heap.size) rfl 0 _).trans (Touch.put (S := fun k => k = w.heap.size) rfl 1 _)).trans (Touch.put (S := fun k => k = w.heap.size) rfl 2 _)) (by simp)
 generalize ((w1.setCell ⟨w.heap.size, 0, none⟩ (.int .i64 kk.1)).setCell ⟨w.heap.size, 1, none⟩ (.int .i64 kk.2.1)).setCell ⟨w.heap.size, 2, none⟩ (.string kk.2.2) = W1 at hbw1 bk1 bv1 ⊢
 have hT1 : TabAt W1 B t T vs vb vc := h.on hbw1
 clear y0 y1 y2 g0 g1 g2 x0 x1 x2 hb1 hBW hK hV hl1 hl2 HW HKEY hT
 clear W w1
 have HF := Veil.mk (find_all B t T vs vb vc hG.inv kk hk2 W1 hT1)
 have x0 : W1.cell? ⟨w.heap.size, 0, none⟩ = some (.int .i64 kk.1) := bk1.at_ 0
 have x1 : W1.cell? ⟨w.heap.size, 1, none⟩ = some (.int .i64 kk.2.1) := bk1.at_ 1
 have x2 : W1.cell? ⟨w.heap.size, 2, none⟩ = some (.string kk.2.2) := bk1.at_ 2
 have HH := Veil.mk h
 clear h
 go_upto_region 4 with (first | (go_at_call 100; ((with_reducible refine HF.out.mono ?_); rintro e w2 ⟨r, rfl, hr, hb2⟩)))
 have hT2 := hT1.on hb2
 have bk2 := bk1.on hb2 bk1.lt
 have bv2 := bv1.on hb2 bv1.lt
 have hbw2 : Below w.heap.size w w2 := hbw1.trans (hb2.mono hbw1.size)
 clear x0 x1 x2 hT1 bk1 bv1 hb2 hbw1 HF
 clear W1
 obtain ⟨sa, cs, rfl, hcs, hgs2, hms⟩ := slice_own hT2.os
 obtain ⟨sb, cb, rfl, hcb, hgb2, hmb⟩ := slice_own hT2.ob
 have c0 : w2.cell? ⟨t, 0, none⟩ = some (.slice sa T.sl.length cs) := hT2.box.at_ 0
 have c1 : w2.cell? ⟨t, 1, none⟩ = some (.slice sb T.nb cb) := hT2.box.at_ 1
 have z0 : w2.cell? ⟨w.heap.size + 1, 0, none⟩ = some (.int .i64 v.1) := bv2.at_ 0
 have z1 : w2.cell? ⟨w.heap.size + 1, 1, none⟩ = some (.int .i64 v.2.1) := bv2.at_ 1
 have z2 : w2.cell? ⟨w.heap.size + 1, 2, none⟩ = some (.string v.2.2) := bv2.at_ 2
 rcases hr with ⟨i, rfl, s, hs, hlv, hkey⟩ | ⟨rfl, hno⟩
 ·have hi := (List.getElem?_eq_some_iff.1 hs).1
  obtain ⟨gs, rfl⟩ := hgs2 (by omega)
  obtain ⟨k0, k1, k2, v0, v1, v2, ff, fl, fn⟩ := hT2.slot i s hs
  have i0 : (0 : Int) <= (i : Int) := by omega
  have i1 : (i : Int) < (T.sl.length : Int) := by omega
  have f3 := own_free hT2.os (i * 9 + 3)
  have f4 := own_free hT2.os (i * 9 + 4)
  have f5 := own_free hT2.os (i * 9 + 5)
  have f6 := own_free hT2.os (i * 9 + 6)
  have HP : Veil (∀ w3, Touch (fun k => k = gs) w2 w3 -> TabAt w3 B t { T with sl := T.sl.set i { s with val := v, fl := f } } (.slice (some ⟨gs, 0, none⟩) T.sl.length cs) (.slice sb T.nb cb) vc -> PutPost B t T k v f (Foot t T (.slice (some ⟨gs, 0, none⟩) T.sl.length cs) (.slice sb T.nb cb) vc) w w3.drew) := ⟨fun w3 ht h3 => ⟨_, good_set T hG i s hs hlv v f, by rw [obs_set T hG.inv i s hs hlv v f, hkey, HKK.out], Nat.le_succ _, rfl, TabPost.drew ⟨_, _, _, h3, (Touch.of_below hbw2).trans (ht.mono (fun k hk => .inr (.inl (by rw [hk]; rfl)))), fun k hk => .inl hk⟩⟩⟩
  have HA := Veil.mk (TabAt.setVF hT2 i s v f hs)
  have HB := Veil.mk (TabAt.setFV hT2 i s v f hs)
  have tc : ∀ (W : World) (j : Nat) (u : Value), Touch (fun k => k = gs) W (W.setCell ⟨gs, j, none⟩ u) := fun W j u => Touch.put (S := fun k => k = gs) rfl j u
  have HTC := Veil.mk tc
  have n1 : gs ≠ w.heap.size + 1 := by have := own_lt HH.out.os gs rfl; omega
  have n2 : gs ≠ t := (own_lab hT2.os gs rfl).ne hT2.box.lab (by decide)
  clear tc hT2 bk2 bv2 hs hlv hkey hgs2 hgb2 k0 k1 k2 fl fn hi
  obtain ⟨v0', v1', v2'⟩ := v
  dsimp only at z0 z1 z2 HA HB
  go_wp2
  go_region
  have HD := Veil.mk (HP.out _ ((((HTC.out _ _ _).trans (HTC.out _ _ _)).trans (HTC.out _ _ _)).trans (HTC.out _ _ _)) HA.out)
  clear HP HA HB HTC
  go_wp2
  exact bodyPost_ret (results_none rfl _ _ _) rfl ⟨rfl, HD.out⟩
 ·have hrm := hG.slack
  have hcap := hG.inv.cap
  have HRB := Veil.mk (fun n => rebuild_any B t T _ _ vc (by omega) (by omega) hcur hG.cat (fun s hs hl => by
   obtain ⟨i, hi, e⟩ := List.mem_iff_getElem.1 hs
   exact (hG.inv.live i s (by rw [List.getElem?_eq_getElem hi, e]) hl).2.2) (w2.drewN n) (hT2.on (below_drewN (Below.refl _ w2) n)))
  have HT2 := Veil.mk hT2
  have BK := Veil.mk bk2
  have BV := Veil.mk bv2
  have NO : Veil (∀ i, ¬ Found T.sl kk i) := ⟨hno⟩
  clear hT2 bk2 bv2 hno hgs2 hgb2
  have e1 : IntKind.i64.wrap ((T.cnt : Int) + 1) = (T.cnt : Int) + 1 := IntWalk.i64_in _ (by omega)
  by_cases hfull : T.sl.length = T.nb
  ·have q : ((T.sl.length : Int) == (T.nb : Int)) = true := by rw [hfull]; simp
   go_upto_region 6 with (fail)
   go_quiet (fail)
   clear c0 c1 z0 z1 z2 q
   go_upto_region 8 with (first | (go_at_call 101; ((with_reducible refine (HRB.out nq).mono ?_); rintro e w3 ⟨rfl, j0, hj01, hj02, hj03, hp3⟩)))
   obtain ⟨T3, hM⟩ : ∃ T3, Mid B t T (Foot t T (.slice sa T.sl.length cs) (.slice sb T.nb cb) vc) w.heap.size (w.heap.size + 1) kk v T3 w w3 := by
    obtain ⟨a1, a2, a3, a4⟩ := re_good hG.inv j0 hj01 hj02 hj03
    obtain ⟨vs', vb', vc', hTk, tk, sk⟩ := hp3
    have hbd := below_drewN (Below.refl w2.heap.size w2) nq
    have hsz : w.heap.size <= (w2.drewN nq).heap.size := hbw2.size
    refine ⟨_, a1, obs_re T j0, a3, by unfold reT; rw [(buildT_same _ _ _ _).2.2.1, List.length_map], by rw [a2, a4]; have := Nat.pow_le_pow_right (n := 2) (by omega) hj01; omega, (BK.out.on hbd BK.out.lt).touch tk (fun h => ?_), (BV.out.on hbd BV.out.lt).touch tk (fun h => ?_), vs', vb', vc', hTk, (Touch.of_below (hbw2.trans (hbd.mono hbw2.size))).trans tk, fun k hk => (sk k hk).imp id (fun h => Nat.le_trans hsz h)⟩
    ·have := (Foot.lt HH.out h).2; omega
    ·have := (Foot.lt HH.out h).2; omega
   clear hp3 HRB HT2 BK BV
   obtain ⟨m1, m2, m3, m4, m5, bk, bv, vs', vb', vc', hT3, tk, sk⟩ := hM
   have d2 : w3.cell? ⟨t, 2, none⟩ = some (.int .i64 (T.cnt : Int)) := by
    have := hT3.box.at_ 2
    rw [m3] at this
    exact this
   have f2 := hT3.box.free 2
   have hS := hT3.setCnt (T.cnt + 1)
   rw [show ((T.cnt + 1 : Nat) : Int) = (T.cnt : Int) + 1 by omega] at hS
   have tp : Touch (fun k => k = t) w3 (w3.setCell ⟨t, 2, none⟩ (.int .i64 ((T.cnt : Int) + 1))) := Touch.put (S := fun k => k = t) rfl _ _
   have bk4 := bk.touch tp (fun e => (bk.lab.ne hT3.box.lab (by decide)) e)
   have bv4 := bv.touch tp (fun e => (bv.lab.ne hT3.box.lab (by decide)) e)
   have sk' : ∀ k, Foot t { T3 with cnt := T.cnt + 1 } vs' vb' vc' k -> Foot t T (.slice sa T.sl.length cs) (.slice sb T.nb cb) vc k \/ w.heap.size <= k := fun k hk => sk k hk
   have tk' := tk.comp tp (fun k hk => .inl (.inl hk))
   obtain ⟨j, hj1, hj2, hnj⟩ : ∃ j : Nat, 1 <= j /\ j <= 30 /\ T3.nb = 2 ^ j := by
    rcases m1.inv.nb with h | h
    ·omega
    ·exact h
   have hadd : Calls Tryz.prog 102 #[.pointer (some ⟨t, 0, none⟩), .agg #[.int .i64 kk.1, .int .i64 kk.2.1, .string kk.2.2, .int .i64 v.1, .int .i64 v.2.1, .string v.2.2, .int .i64 f, .bool true, .int .i64 0]] _ _ := add_any B t { T3 with cnt := T.cnt + 1 } vs' vb' vc' j hj2 hnj m1.inv.hlen (by have := m1.slack; show T3.sl.length < _; omega) ⟨kk, v, f, true, 0⟩ hk2 _ hS
   have hnoT : ∀ i, ¬ Found T3.sl kk i := fun i hi => by
    obtain ⟨a, ha⟩ := (hasK_found T kk).1 (by rw [<- m2]; exact (hasK_found T3 kk).2 ⟨i, hi⟩)
    exact NO.out a ha
   have HP : Veil (∀ w5, TabPost B t (addT { T3 with cnt := T.cnt + 1 } ⟨kk, v, f, true, 0⟩) (Foot t { T3 with cnt := T.cnt + 1 } vs' vb' vc') (w3.setCell ⟨t, 2, none⟩ (.int .i64 ((T.cnt : Int) + 1))) w5 -> PutPost B t T k v f (Foot t T (.slice sa T.sl.length cs) (.slice sb T.nb cb) vc) w w5) := ⟨fun w5 h5 => by
    have g := good_add T3 m1 ⟨kk, v, f, true, 0⟩ rfl m5 (by rw [HKK.out]; exact keyT_twice k) hk2 hnoT
    have o := obs_add T3 m1.cat ⟨kk, v, f, true, 0⟩ rfl (T3.cnt + 1) hnoT
    rw [m2, m3, HKK.out] at o
    rw [m3, HKK.out] at g
    rw [HKK.out] at h5
    exact ⟨_, g, o, Nat.le_refl _, m4, TabPost.step hS tk' sk' h5⟩⟩
   have HADD := Veil.mk hadd
   have BK := Veil.mk bk4
   have BV := Veil.mk bv4
   clear hadd bk4 bv4 m1 m2 m3 m4 m5 bk bv hT3 tk sk hS tp sk' tk' hnoT hnj hj1 hj2
   go_upto_region 9 with (fail)
   generalize w3.setCell ⟨t, 2, none⟩ (.int .i64 ((T.cnt : Int) + 1)) = w4 at HP HADD BK BV ⊢
   have x0 : w4.cell? ⟨w.heap.size, 0, none⟩ = some (.int .i64 kk.1) := BK.out.at_ 0
   have x1 : w4.cell? ⟨w.heap.size, 1, none⟩ = some (.int .i64 kk.2.1) := BK.out.at_ 1
   have x2 : w4.cell? ⟨w.heap.size, 2, none⟩ = some (.string kk.2.2) := BK.out.at_ 2
   have y0 : w4.cell? ⟨w.heap.size + 1, 0, none⟩ = some (.int .i64 v.1) := BV.out.at_ 0
   have y1 : w4.cell? ⟨w.heap.size + 1, 1, none⟩ = some (.int .i64 v.2.1) := BV.out.at_ 1
   have y2 : w4.cell? ⟨w.heap.size + 1, 2, none⟩ = some (.string v.2.2) := BV.out.at_ 2
   clear d2 f2
   go_wp2_with (first | (go_at_call 102; ((with_reducible refine HADD.out.mono ?_); rintro e w5 ⟨rfl, h5⟩)))
   have HD := Veil.mk (HP.out _ h5)
   go_end0
   exact ⟨rfl, HD.out⟩
  ·have q : ((T.sl.length : Int) == (T.nb : Int)) = false := beq_eq_false_iff_ne.2 (by omega)
   go_upto_region 6 with (fail)
   go_quiet (fail)
   clear c0 c1 z0 z1 z2 q
   have hbd := below_drewN (Below.refl w2.heap.size w2) nq
   have hM' : Mid B t T (Foot t T (.slice sa T.sl.length cs) (.slice sb T.nb cb) vc) w.heap.size (w.heap.size + 1) kk v T w (w2.drewN nq) := ⟨hG, rfl, rfl, rfl, by omega, BK.out.on hbd BK.out.lt, BV.out.on hbd BV.out.lt, _, _, _, HT2.out.on hbd, Touch.of_below (hbw2.trans (hbd.mono hbw2.size)), fun k hk => .inl hk⟩
   obtain ⟨T3, hM⟩ : ∃ T3, Mid B t T (Foot t T (.slice sa T.sl.length cs) (.slice sb T.nb cb) vc) w.heap.size (w.heap.size + 1) kk v T3 w (w2.drewN nq) := ⟨T, hM'⟩
   clear HRB HT2 BK BV hM'
   go_upto_region 8 with (fail)
   generalize w2.drewN nq = w3 at hM ⊢
   obtain ⟨m1, m2, m3, m4, m5, bk, bv, vs', vb', vc', hT3, tk, sk⟩ := hM
   have d2 : w3.cell? ⟨t, 2, none⟩ = some (.int .i64 (T.cnt : Int)) := by
    have := hT3.box.at_ 2
    rw [m3] at this
    exact this
   have f2 := hT3.box.free 2
   have hS := hT3.setCnt (T.cnt + 1)
   rw [show ((T.cnt + 1 : Nat) : Int) = (T.cnt : Int) + 1 by omega] at hS
   have tp : Touch (fun k => k = t) w3 (w3.setCell ⟨t, 2, none⟩ (.int .i64 ((T.cnt : Int) + 1))) := Touch.put (S := fun k => k = t) rfl _ _
   have bk4 := bk.touch tp (fun e => (bk.lab.ne hT3.box.lab (by decide)) e)
   have bv4 := bv.touch tp (fun e => (bv.lab.ne hT3.box.lab (by decide)) e)
   have sk' : ∀ k, Foot t { T3 with cnt := T.cnt + 1 } vs' vb' vc' k -> Foot t T (.slice sa T.sl.length cs) (.slice sb T.nb cb) vc k \/ w.heap.size <= k := fun k hk => sk k hk
   have tk' := tk.comp tp (fun k hk => .inl (.inl hk))
   obtain ⟨j, hj1, hj2, hnj⟩ : ∃ j : Nat, 1 <= j /\ j <= 30 /\ T3.nb = 2 ^ j := by
    rcases m1.inv.nb with h | h
    ·omega
    ·exact h
   have hadd : Calls Tryz.prog 102 #[.pointer (some ⟨t, 0, none⟩), .agg #[.int .i64 kk.1, .int .i64 kk.2.1, .string kk.2.2, .int .i64 v.1, .int .i64 v.2.1, .string v.2.2, .int .i64 f, .bool true, .int .i64 0]] _ _ := add_any B t { T3 with cnt := T.cnt + 1 } vs' vb' vc' j hj2 hnj m1.inv.hlen (by have := m1.slack; show T3.sl.length < _; omega) ⟨kk, v, f, true, 0⟩ hk2 _ hS
   have hnoT : ∀ i, ¬ Found T3.sl kk i := fun i hi => by
    obtain ⟨a, ha⟩ := (hasK_found T kk).1 (by rw [<- m2]; exact (hasK_found T3 kk).2 ⟨i, hi⟩)
    exact NO.out a ha
   have HP : Veil (∀ w5, TabPost B t (addT { T3 with cnt := T.cnt + 1 } ⟨kk, v, f, true, 0⟩) (Foot t { T3 with cnt := T.cnt + 1 } vs' vb' vc') (w3.setCell ⟨t, 2, none⟩ (.int .i64 ((T.cnt : Int) + 1))) w5 -> PutPost B t T k v f (Foot t T (.slice sa T.sl.length cs) (.slice sb T.nb cb) vc) w w5) := ⟨fun w5 h5 => by
    have g := good_add T3 m1 ⟨kk, v, f, true, 0⟩ rfl m5 (by rw [HKK.out]; exact keyT_twice k) hk2 hnoT
    have o := obs_add T3 m1.cat ⟨kk, v, f, true, 0⟩ rfl (T3.cnt + 1) hnoT
    rw [m2, m3, HKK.out] at o
    rw [m3, HKK.out] at g
    rw [HKK.out] at h5
    exact ⟨_, g, o, Nat.le_refl _, m4, TabPost.step hS tk' sk' h5⟩⟩
   have HADD := Veil.mk hadd
   have BK := Veil.mk bk4
   have BV := Veil.mk bv4
   clear hadd bk4 bv4 m1 m2 m3 m4 m5 bk bv hT3 tk sk hS tp sk' tk' hnoT hnj hj1 hj2
   go_upto_region 9 with (fail)
   generalize w3.setCell ⟨t, 2, none⟩ (.int .i64 ((T.cnt : Int) + 1)) = w4 at HP HADD BK BV ⊢
   have x0 : w4.cell? ⟨w.heap.size, 0, none⟩ = some (.int .i64 kk.1) := BK.out.at_ 0
   have x1 : w4.cell? ⟨w.heap.size, 1, none⟩ = some (.int .i64 kk.2.1) := BK.out.at_ 1
   have x2 : w4.cell? ⟨w.heap.size, 2, none⟩ = some (.string kk.2.2) := BK.out.at_ 2
   have y0 : w4.cell? ⟨w.heap.size + 1, 0, none⟩ = some (.int .i64 v.1) := BV.out.at_ 0
   have y1 : w4.cell? ⟨w.heap.size + 1, 1, none⟩ = some (.int .i64 v.2.1) := BV.out.at_ 1
   have y2 : w4.cell? ⟨w.heap.size + 1, 2, none⟩ = some (.string v.2.2) := BV.out.at_ 2
   clear d2 f2
   go_wp2_with (first | (go_at_call 102; ((with_reducible refine HADD.out.mono ?_); rintro e w5 ⟨rfl, h5⟩)))
   have HD := Veil.mk (HP.out _ h5)
   go_end0
   exact ⟨rfl, HD.out⟩
abbrev noRow : Value := .slice none 0 0
def T0 : Tab := ⟨[], [], 0, 0, []⟩
theorem good0 : Good T0 := ⟨⟨rfl, .inl rfl, Nat.le_refl _, fun i s h hs => by simp [T0] at hs, fun i s hs => by simp [T0] at hs, fun i j s t hs => by simp [T0] at hs, rfl, fun h hh => by simp [T0] at hh⟩, by simp [T0], fun c hc => by simp [T0] at hc⟩
theorem nil_own (w : World) (B : Nat) (e : TypeId) (size : Nat) : w.ownsRow B e size noRow 0 [] := ⟨by simp, .inl ⟨rfl, rfl⟩⟩
theorem tab0 (w : World) (B : Nat) (hB : B <= w.heap.size) : TabAt (w.alloc (.cells #[noRow, noRow, .int .i64 0, noRow] 177)) B w.heap.size T0 noRow noRow noRow :=
 ⟨Box.new w _ _, nil_own _ _ _ _, nil_own _ _ _ _, nil_own _ _ _ _, fun i c hc => by simp [T0] at hc, hB⟩
theorem tnew_any (w : World) : Calls Tryz.prog 113 #[] w fun e w' => e = .returned (.pointer (some ⟨w.heap.size, 0, none⟩)) /\ w' = w.alloc (.cells #[noRow, noRow, .int .i64 0, noRow] 177) := by
 go_enter Tryz.func113, Tryz.ntmps113
 go_wp2
 go_ret
 exact ⟨rfl, rfl⟩
theorem find_nil (k : Vt) (w : World) : Calls Tryz.prog 100 #[.pointer none, valV k] w fun e w' => e = .returned (.int .i64 (-1)) /\ Below w.heap.size w w' := by
 have hB : Below w.heap.size w (w.alloc (.cells #[.int .i64 k.1, .int .i64 k.2.1, .string k.2.2] 28)) := (Below.refl _ _).alloc (Nat.le_refl _) _
 go_enter Tryz.func100, Tryz.ntmps100
 go_wp2
 go_ret
 exact ⟨rfl, hB⟩
abbrev zeroV : Value := .agg #[.int .i64 0, .int .i64 0, .string ⟨#[]⟩]
theorem get_nil (k : Vt) (w : World) : Calls Tryz.prog 110 #[.pointer none, valV k] w fun e w' => e = .returned (.tuple #[zeroV, .int .i64 0, .bool false]) /\ Below w.heap.size w w' := by
 have HKEY := Veil.mk (fun w => key_any k w)
 have HF := Veil.mk (fun w => find_nil (keyT k) w)
 obtain ⟨W, hW⟩ : ∃ W, W = (w.alloc (.cells #[.int .i64 k.1, .int .i64 k.2.1, .string k.2.2] 28)).alloc (.cells #[.int .i64 0, .int .i64 0, .string ⟨#[]⟩] 28) := ⟨_, rfl⟩
 have hBW : Below w.heap.size w W := by rw [hW]; exact ((Below.refl _ _).alloc (Nat.le_refl _) _).alloc (by simp) _
 have hK : Box W w.heap.size 28 #[.int .i64 k.1, .int .i64 k.2.1, .string k.2.2] := by rw [hW]; exact (Box.new w _ _).more _
 have hZ : Box W (w.heap.size + 1) 28 #[.int .i64 0, .int .i64 0, .string ⟨#[]⟩] := by
  rw [hW]
  have := Box.new (w.alloc (.cells #[.int .i64 k.1, .int .i64 k.2.1, .string k.2.2] 28)) 28 #[.int .i64 0, .int .i64 0, .string ⟨#[]⟩]
  rwa [World.size_alloc] at this
 have HW := Veil.mk hW
 have x0 : W.cell? ⟨w.heap.size, 0, none⟩ = some (.int .i64 k.1) := hK.at_ 0
 have x1 : W.cell? ⟨w.heap.size, 1, none⟩ = some (.int .i64 k.2.1) := hK.at_ 1
 have x2 : W.cell? ⟨w.heap.size, 2, none⟩ = some (.string k.2.2) := hK.at_ 2
 have hlz := hZ.lt
 clear hW hK
 go_enter Tryz.func110, Tryz.ntmps110
 go_upto_region 1 with (fail)
 rw [<- HW.out]
 go_upto_region 2 with (first | (go_at_call 99; ((with_reducible refine (HKEY.out _).mono ?_); rintro e w1 ⟨rfl, hb1⟩)) | (go_at_call 100; ((with_reducible refine (HF.out _).mono ?_); rintro e w2 ⟨rfl, hb2⟩)))
 have hZ2 := hZ.on (blw2 hb1 hb2) hlz
 have z0 : w2.cell? ⟨w.heap.size + 1, 0, none⟩ = some (.int .i64 0) := hZ2.at_ 0
 have z1 : w2.cell? ⟨w.heap.size + 1, 1, none⟩ = some (.int .i64 0) := hZ2.at_ 1
 have z2 : w2.cell? ⟨w.heap.size + 1, 2, none⟩ = some (.string ⟨#[]⟩) := hZ2.at_ 2
 have g0 := hZ2.free 0
 have g1 := hZ2.free 1
 have g2 := hZ2.free 2
 have hb : Below w.heap.size w w2 := blw2 hBW (blw2 hb1 hb2)
 have HE : Veil (∀ (a b c : Value), Below w.heap.size w (((w2.setCell ⟨w.heap.size + 1, 0, none⟩ a).setCell ⟨w.heap.size + 1, 1, none⟩ b).setCell ⟨w.heap.size + 1, 2, none⟩ c)) := ⟨fun a b c => ((hb.setCell (p := ⟨w.heap.size + 1, 0, none⟩) (by simp) _).setCell (p := ⟨w.heap.size + 1, 1, none⟩) (by simp) _).setCell (p := ⟨w.heap.size + 1, 2, none⟩) (by simp) _⟩
 clear x0 x1 x2 hb1 hZ hlz hBW HW HKEY HF hZ2
 go_wp2
 have hz3 : True := trivial
 exact bodyPost_ret (v := .tuple #[zeroV, .int .i64 0, .bool false]) (by simp [results, Tryz.results110, go_sem, z0, z1, z2]) rfl ⟨rfl, HE.out _ _ _⟩
def GetPost (T : Tab) (k : Vt) (w : World) (e : Ending) (w' : World) : Prop := ((∃ x ∈ (obs T).1, x.1 = keyT k /\ e = .returned (.tuple #[valV x.2.1, .int .i64 x.2.2, .bool true])) \/ (¬ hasK (obs T).1 (keyT k) /\ e = .returned (.tuple #[zeroV, .int .i64 0, .bool false]))) /\ Below w.heap.size w w'
theorem tget_any (B t : Nat) (T : Tab) (vs vb vc : Value) (hI : Inv T) (k : Vt) (hk : k.2.2.size <= 1000) (w : World) (h : TabAt w B t T vs vb vc) : Calls Tryz.prog 110 #[.pointer (some ⟨t, 0, none⟩), valV k] w (GetPost T k w) := by
 have HKEY := Veil.mk (fun w => key_any k w)
 obtain ⟨W, hW⟩ : ∃ W, W = (w.alloc (.cells #[.int .i64 k.1, .int .i64 k.2.1, .string k.2.2] 28)).alloc (.cells #[.int .i64 0, .int .i64 0, .string ⟨#[]⟩] 28) := ⟨_, rfl⟩
 have hBW : Below w.heap.size w W := by rw [hW]; exact ((Below.refl _ _).alloc (Nat.le_refl _) _).alloc (by simp) _
 have hK : Box W w.heap.size 28 #[.int .i64 k.1, .int .i64 k.2.1, .string k.2.2] := by rw [hW]; exact (Box.new w _ _).more _
 have hZ : Box W (w.heap.size + 1) 28 #[.int .i64 0, .int .i64 0, .string ⟨#[]⟩] := by
  rw [hW]
  have := Box.new (w.alloc (.cells #[.int .i64 k.1, .int .i64 k.2.1, .string k.2.2] 28)) 28 #[.int .i64 0, .int .i64 0, .string ⟨#[]⟩]
  rwa [World.size_alloc] at this
 have HW := Veil.mk hW
 have x0 : W.cell? ⟨w.heap.size, 0, none⟩ = some (.int .i64 k.1) := hK.at_ 0
 have x1 : W.cell? ⟨w.heap.size, 1, none⟩ = some (.int .i64 k.2.1) := hK.at_ 1
 have x2 : W.cell? ⟨w.heap.size, 2, none⟩ = some (.string k.2.2) := hK.at_ 2
 have hlz := hZ.lt
 have hT := h.on hBW
 have HT := Veil.mk hT
 have HF := Veil.mk (fun w1 (hb : Below W.heap.size W w1) => find_all B t T vs vb vc hI (keyT k) (keyT_size2 k hk) w1 (hT.on hb))
 have hne : w.heap.size <= w.heap.size + 1 := Nat.le_succ _
 clear hW hK hT
 have hlt : ∀ g, vs.ownBlock = some g -> g < w.heap.size := fun g hg => (own_lt h.os g hg).2
 have htl := h.box.lt
 clear h
 go_enter Tryz.func110, Tryz.ntmps110
 go_upto_region 1 with (fail)
 rw [<- HW.out]
 go_upto_region 2 with (first | (go_at_call 99; ((with_reducible refine (HKEY.out _).mono ?_); rintro e w1 ⟨rfl, hb1⟩)) | (go_at_call 100; ((with_reducible refine (HF.out _ hb1).mono ?_); rintro e w2 ⟨r, rfl, hr, hb2⟩)))
 have hZ2 := hZ.on (blw2 hb1 hb2) hlz
 have hT2 := HT.out.on (blw2 hb1 hb2)
 have z0 : w2.cell? ⟨w.heap.size + 1, 0, none⟩ = some (.int .i64 0) := hZ2.at_ 0
 have z1 : w2.cell? ⟨w.heap.size + 1, 1, none⟩ = some (.int .i64 0) := hZ2.at_ 1
 have z2 : w2.cell? ⟨w.heap.size + 1, 2, none⟩ = some (.string ⟨#[]⟩) := hZ2.at_ 2
 have g0 := hZ2.free 0
 have g1 := hZ2.free 1
 have g2 := hZ2.free 2
 have hb : Below w.heap.size w w2 := blw2 hBW (blw2 hb1 hb2)
 have HE : Veil (∀ (a b c : Value), Below w.heap.size w (((w2.setCell ⟨w.heap.size + 1, 0, none⟩ a).setCell ⟨w.heap.size + 1, 1, none⟩ b).setCell ⟨w.heap.size + 1, 2, none⟩ c)) := ⟨fun a b c => ((hb.setCell (p := ⟨w.heap.size + 1, 0, none⟩) (by simp) _).setCell (p := ⟨w.heap.size + 1, 1, none⟩) (by simp) _).setCell (p := ⟨w.heap.size + 1, 2, none⟩) (by simp) _⟩
 clear x0 x1 x2 hb1 hZ hlz hBW HW HKEY HF HT
 rcases hr with ⟨i, rfl, s, hs, hlv, hkey⟩ | ⟨rfl, hno⟩
 ·obtain ⟨sa, cs, rfl, hcs, hgs2, hms⟩ := slice_own hT2.os
  have hi := (List.getElem?_eq_some_iff.1 hs).1
  obtain ⟨gs, rfl⟩ := hgs2 (by omega)
  have hgl := hlt gs rfl
  have c0 : w2.cell? ⟨t, 0, none⟩ = some (.slice (some ⟨gs, 0, none⟩) T.sl.length cs) := hT2.box.at_ 0
  obtain ⟨k0, k1, k2, v0, v1, v2, ff, fl, fn⟩ := hT2.slot i s hs
  have i0 : ¬ (i : Int) < 0 := by omega
  have i01 : (0 : Int) <= (i : Int) := by omega
  have i1 : (i : Int) < (T.sl.length : Int) := by omega
  have n1 : gs ≠ w.heap.size + 1 := by omega
  have n2 : t ≠ w.heap.size + 1 := by omega
  have HX : Veil (∃ x ∈ (obs T).1, x.1 = keyT k /\ (Ending.returned (.tuple #[.agg #[.int .i64 s.val.1, .int .i64 s.val.2.1, .string s.val.2.2], .int .i64 s.fl, .bool true])) = .returned (.tuple #[valV x.2.1, .int .i64 x.2.2, .bool true])) := ⟨⟨ent s, List.mem_map.2 ⟨s, List.mem_filter.2 ⟨List.mem_of_getElem? hs, hlv⟩, rfl⟩, hkey, rfl⟩⟩
  have HZ2 := Veil.mk hZ2
  clear hs hlv hkey hT2 hgs2 hlt k0 k1 k2 fl fn hZ2
  go_upto_region 4 with (fail)
  go_region
  have HD := Veil.mk (HE.out (.int .i64 s.val.1) (.int .i64 s.val.2.1) (.string s.val.2.2))
  have hZ3 := ((HZ2.out.put 0 (.int .i64 s.val.1)).put 1 (.int .i64 s.val.2.1)).put 2 (.string s.val.2.2)
  generalize ((w2.setCell ⟨w.heap.size + 1, 0, none⟩ (.int .i64 s.val.1)).setCell ⟨w.heap.size + 1, 1, none⟩ (.int .i64 s.val.2.1)).setCell ⟨w.heap.size + 1, 2, none⟩ (.string s.val.2.2) = w3 at HD hZ3 ⊢
  have y0 : w3.drew.cell? ⟨w.heap.size + 1, 0, none⟩ = some (.int .i64 s.val.1) := hZ3.at_ 0
  have y1 : w3.drew.cell? ⟨w.heap.size + 1, 1, none⟩ = some (.int .i64 s.val.2.1) := hZ3.at_ 1
  have y2 : w3.drew.cell? ⟨w.heap.size + 1, 2, none⟩ = some (.string s.val.2.2) := hZ3.at_ 2
  clear HE z0 z1 z2 g0 g1 g2 v0 v1 v2 ff c0
  go_wp2
  exact bodyPost_ret (v := .tuple #[.agg #[.int .i64 s.val.1, .int .i64 s.val.2.1, .string s.val.2.2], .int .i64 s.fl, .bool true]) (by simp [results, Tryz.results110, go_sem, y0, y1, y2]) rfl ⟨.inl HX.out, HD.out.drew⟩
 ·have hno' : ¬ hasK (obs T).1 (keyT k) := fun h => by
   obtain ⟨a, ha⟩ := (hasK_found T (keyT k)).1 h
   exact hno a ha
  clear hT2 hZ2 hno
  go_wp2
  exact bodyPost_ret (v := .tuple #[zeroV, .int .i64 0, .bool false]) (by simp [results, Tryz.results110, go_sem, z0, z1, z2]) rfl ⟨.inr ⟨hno', rfl⟩, HE.out _ _ _⟩
end Go.Proofs.YtahkohfppakaiaaGreatDoor
namespace Go.Proofs.YtahkohfppakaiaaGreatDoor
open Go.RowKit
end Go.Proofs.YtahkohfppakaiaaGreatDoor
namespace Go.Proofs.YtahkohfppakaiaaGreatDoor
open Go.RowKit
end Go.Proofs.YtahkohfppakaiaaGreatDoor
namespace Go.Proofs.YtahkohfppakaiaaGreatDoor
open Go.RowKit
def Tb (B t : Nat) (O : Ob) (w : World) : Prop := ∃ T vs vb vc, TabAt w B t T vs vb vc /\ Good T /\ obs T = O
structure Fr (B : Nat) (w w' : World) : Prop where
 low : Below B w w'
 kept : ∀ g cs, Box w g 28 cs -> Box w' g 28 cs
theorem foot_val {w : World} {B t : Nat} {T : Tab} {vs vb vc : Value} (h : TabAt w B t T vs vb vc) {g : Nat} {cs : Array Value} (hg : Box w g 28 cs) : ¬ Foot t T vs vb vc g := fun hk => by
 have hl := hg.lab
 rcases hk with e | e | e | e | ⟨d, hd, e⟩
 ·rw [e] at hl; exact hl.ne h.box.lab (by decide) rfl
 ·exact (own_lab h.os g e).ne hl (by decide) rfl
 ·exact (own_lab h.ob g e).ne hl (by decide) rfl
 ·exact (own_lab h.oc g e).ne hl (by decide) rfl
 ·obtain ⟨m, hm, rfl⟩ := List.mem_iff_getElem.1 hd
  have := (h.cs m _ (List.getElem?_eq_getElem hm)).2.lab
  rw [e] at this
  exact this.ne hl (by decide) rfl
theorem fr_touch {w w' : World} {B t : Nat} {T : Tab} {vs vb vc : Value} (h : TabAt w B t T vs vb vc) (ht : Touch (Foot t T vs vb vc) w w') : Fr B w w' :=
 ⟨ht.below (by have := h.bt; have := h.box.lt; omega) (fun k hk => (Foot.lt h hk).1), fun g cs hg => hg.touch ht (foot_val h hg)⟩
theorem Tb.post {B t : Nat} {T T' : Tab} {vs vb vc : Value} {O : Ob} {w w' : World} (h : TabAt w B t T vs vb vc) (hG : Good T') (ho : obs T' = O) (hp : TabPost B t T' (Foot t T vs vb vc) w w') : Tb B t O w' /\ Fr B w w' := by
 obtain ⟨vs', vb', vc', h1, h2, h3⟩ := hp
 exact ⟨⟨T', vs', vb', vc', h1, hG, ho⟩, fr_touch h h2⟩
theorem obs_sizes {T : Tab} (h : Good T) {O : Ob} (ho : obs T = O) : T.cnt = O.1.length /\ T.cur.length = O.2.length := by
 subst ho
 refine ⟨?_, by unfold obs; rw [List.length_map]⟩
 show T.cnt = (ents T.sl).length
 rw [ents_len]
 exact h.inv.cnt
theorem put_tb {B t : Nat} {O : Ob} {w : World} (h : Tb B t O w) (h1 : O.1.length < 40000) (h2 : O.2.length < 100000) (k v : Vt) (f : Int) (hk : k.2.2.size <= 1000) :
  Calls Tryz.prog 62 #[.pointer (some ⟨t, 0, none⟩), valV k, valV v, .int .i64 f] w fun e w' => e = .returned (.tuple #[]) /\ Tb B t (putO O (keyT k) v f) w' /\ Fr B w w' := by
 obtain ⟨T, vs, vb, vc, hT, hG, ho⟩ := h
 obtain ⟨s1, s2⟩ := obs_sizes hG ho
 refine (put_any B t T vs vb vc hG (by omega) (by omega) k v f hk w hT).mono ?_
 rintro e w' ⟨rfl, T', hG', ho', _, _, hp⟩
 exact ⟨rfl, Tb.post hT hG' (by rw [ho', ho]) hp⟩
end Go.Proofs.YtahkohfppakaiaaGreatDoor
namespace Go.Proofs.YtahkohfppakaiaaGreatDoor
open Go.RowKit
end Go.Proofs.YtahkohfppakaiaaGreatDoor
namespace Go.Proofs.YtahkohfppakaiaaGreatDoor
open Go.RowKit
end Go.Proofs.YtahkohfppakaiaaGreatDoor
namespace Go.Proofs.YtahkohfppakaiaaGreatDoor
open Go.RowKit
def Tf (B t : Nat) (F : Nat -> Prop) (O : Ob) (w : World) : Prop := ∃ T vs vb vc, TabAt w B t T vs vb vc /\ Good T /\ obs T = O /\ F = Foot t T vs vb vc
structure Fs (F F' : Nat -> Prop) (w w' : World) : Prop where
 touch : Touch F w w'
 fresh : ∀ k, F' k -> F k \/ w.heap.size <= k
section
variable {B t : Nat} {F : Nat -> Prop} {O : Ob} {w w' : World}
theorem Tf.on (h : Tf B t F O w) (hb : Below w.heap.size w w') : Tf B t F O w' := by
 obtain ⟨T, vs, vb, vc, h1, h2, h3, h4⟩ := h
 exact ⟨T, vs, vb, vc, h1.on hb, h2, h3, h4⟩
theorem Tf.touch {S : Nat -> Prop} (h : Tf B t F O w) (ht : Touch S w w') (hn : ∀ k, F k -> ¬ S k) : Tf B t F O w' := by
 obtain ⟨T, vs, vb, vc, h1, h2, h3, rfl⟩ := h
 exact ⟨T, vs, vb, vc, h1.touch ht hn, h2, h3, rfl⟩
theorem Tf.lt (h : Tf B t F O w) (k : Nat) (hk : F k) : B <= k /\ k < w.heap.size := by
 obtain ⟨T, vs, vb, vc, h1, h2, h3, rfl⟩ := h
 exact Foot.lt h1 hk
theorem Tf.lab (h : Tf B t F O w) (k : Nat) (hk : F k) : Lab w k 177 \/ Lab w k 182 \/ Lab w k 3 \/ Lab w k 58 \/ ∃ a b, Box w k 179 #[.pointer (some ⟨t, 0, none⟩), a, b] := by
 obtain ⟨T, vs, vb, vc, h1, h2, h3, rfl⟩ := h
 rcases hk with rfl | e | e | e | ⟨d, hd, rfl⟩
 ·exact .inl h1.box.lab
 ·exact .inr (.inl (own_lab h1.os k e))
 ·exact .inr (.inr (.inl (own_lab h1.ob k e)))
 ·exact .inr (.inr (.inr (.inl (own_lab h1.oc k e))))
 ·obtain ⟨m, hm, rfl⟩ := List.mem_iff_getElem.1 hd
  exact .inr (.inr (.inr (.inr ⟨_, _, (h1.cs m _ (List.getElem?_eq_getElem hm)).2⟩)))
theorem Tf.not_lab (h : Tf B t F O w) {g : Nat} {e : TypeId} (hl : Lab w g e) (he : e ≠ 177 /\ e ≠ 182 /\ e ≠ 3 /\ e ≠ 58 /\ e ≠ 179) : ¬ F g := fun hk => by
 rcases h.lab g hk with h1 | h1 | h1 | h1 | ⟨a, b, h1⟩
 ·exact hl.ne h1 he.1 rfl
 ·exact hl.ne h1 he.2.1 rfl
 ·exact hl.ne h1 he.2.2.1 rfl
 ·exact hl.ne h1 he.2.2.2.1 rfl
 ·exact hl.ne h1.lab he.2.2.2.2 rfl
theorem Fs.box {F F' : Nat -> Prop} {w w' : World} (h : Fs F F' w w') {g : Nat} {e : TypeId} {cs : Array Value} (hg : Box w g e cs) (hn : ¬ F g) : Box w' g e cs /\ ¬ F' g :=
 ⟨hg.touch h.touch hn, fun hk => (h.fresh g hk).elim hn (fun h2 => by have := hg.lt; omega)⟩
theorem Tf.post {T T' : Tab} {vs vb vc : Value} (hG : Good T') (ho : obs T' = O) (hp : TabPost B t T' (Foot t T vs vb vc) w w') : ∃ F', Tf B t F' O w' /\ Fs (Foot t T vs vb vc) F' w w' := by
 obtain ⟨vs', vb', vc', h1, h2, h3⟩ := hp
 exact ⟨_, ⟨T', vs', vb', vc', h1, hG, ho, rfl⟩, h2, h3⟩
end
def PutP (B t : Nat) (F : Nat -> Prop) (O : Ob) (w w' : World) : Prop := ∃ F', Tf B t F' O w' /\ Fs F F' w w'
theorem put_tf {B t : Nat} {F : Nat -> Prop} {O : Ob} {w : World} (h : Tf B t F O w) (h1 : O.1.length < 40000) (h2 : O.2.length < 100000) (k v : Vt) (f : Int) (hk : k.2.2.size <= 1000) :
  Calls Tryz.prog 62 #[.pointer (some ⟨t, 0, none⟩), valV k, valV v, .int .i64 f] w fun e w' => e = .returned (.tuple #[]) /\ PutP B t F (putO O (keyT k) v f) w w' := by
 obtain ⟨T, vs, vb, vc, hT, hG, ho, rfl⟩ := h
 obtain ⟨s1, s2⟩ := obs_sizes hG ho
 refine (put_any B t T vs vb vc hG (by omega) (by omega) k v f hk w hT).mono ?_
 rintro e w' ⟨rfl, T', hG', ho', _, _, hp⟩
 exact ⟨rfl, Tf.post hG' (by rw [ho', ho]) hp⟩
theorem new_tf {B : Nat} {w : World} (hB : B <= w.heap.size) : Calls Tryz.prog 113 #[] w fun e w' => e = .returned (.pointer (some ⟨w.heap.size, 0, none⟩)) /\ Tf B w.heap.size (fun k => k = w.heap.size) ([], []) w' /\ Below w.heap.size w w' := by
 refine (tnew_any w).mono ?_
 rintro e w' ⟨rfl, rfl⟩
 refine ⟨rfl, ⟨T0, _, _, _, tab0 w B hB, good0, rfl, ?_⟩, (Below.refl _ _).alloc (Nat.le_refl _) _⟩
 funext k
 apply propext
 constructor
 ·intro h; exact .inl h
 ·rintro (h | h | h | h | ⟨x, hx, h⟩)
  ·exact h
  ·simp [Value.ownBlock] at h
  ·simp [Value.ownBlock] at h
  ·simp [Value.ownBlock] at h
  ·simp [T0] at hx
end Go.Proofs.YtahkohfppakaiaaGreatDoor
namespace Go.Proofs.YtahkohfppakaiaaGreatDoor
open Go Go.RowKit
structure KD where
 k : Int
 sl : Value
 at_ : Int
 cs : Bool
abbrev kdI (k : Int) : KD := ⟨k, .slice none 0 0, 0, false⟩
abbrev kd0 : KD := ⟨0, .slice none 0 0, 0, false⟩
abbrev objF (cl proto : Int) (cs : Bool) (pv ev fn : Value) (kd : KD) : Array Value := #[.int .i64 cl, .int .i64 proto, .bool cs, pv, ev, kd.sl, .pointer none, .pointer none, .pointer none, .slice none 0 0, fn, .int .i64 0, .int .i64 0, .int .i64 kd.k, .int .i64 kd.at_, .nilIface]
abbrev objC (cl proto : Int) (cs : Bool) (pv ev : Value) : Array Value := objF cl proto cs pv ev .nilIface kd0
theorem as_yes (nb : Nat) (W : World) : (Instr.typeAssert (.iface 64 (.pointer (some ⟨nb, 0, none⟩))) 138 64 true).run Tryz.prog W = .ok (.tuple #[.pointer (some ⟨nb, 0, none⟩), .bool true]) W := by kernel_rfl
theorem as_nil (W : World) : (Instr.typeAssert .nilIface 138 64 true).run Tryz.prog W = .ok (.tuple #[.pointer none, .bool false]) W := by kernel_rfl
theorem obj_some {w : World} {B h A : Nat} {cv fv rv : Value} {d : AD} (hp : HpAt w B h A cv fv rv d) (r : Int) (nb : Nat) (hr : d.get r = some (64, nb)) : Calls Tryz.prog 32 #[.pointer (some ⟨h, 0, none⟩), .int .i64 r] w fun e w' => e = .returned (.pointer (some ⟨nb, 0, none⟩)) /\ w' = w := by
 have hg := get_any B A cv fv rv d r w hp.ar
 rw [hr] at hg
 have HG := Veil.mk hg
 have h0 : w.cell? ⟨h, 0, none⟩ = some (.pointer (some ⟨A, 0, none⟩)) := hp.hb.at_ 0
 clear hp hr hg
 have ha := as_yes nb
 go_enter Tryz.func32, Tryz.ntmps32
 go_wp2_with (first | (go_at_call 66; ((with_reducible refine HG.out.mono ?_); rintro e w4 ⟨rfl, h4⟩; subst w4; simp only [bodyV])))
 go_ret
 exact ⟨rfl, rfl⟩
theorem obj_none {w : World} {B h A : Nat} {cv fv rv : Value} {d : AD} (hp : HpAt w B h A cv fv rv d) (r : Int) (hr : d.get r = none) : Calls Tryz.prog 32 #[.pointer (some ⟨h, 0, none⟩), .int .i64 r] w fun e w' => e = .returned (.pointer none) /\ w' = w := by
 have hg := get_any B A cv fv rv d r w hp.ar
 rw [hr] at hg
 have HG := Veil.mk hg
 have h0 : w.cell? ⟨h, 0, none⟩ = some (.pointer (some ⟨A, 0, none⟩)) := hp.hb.at_ 0
 clear hp hr hg
 have ha := as_nil
 go_enter Tryz.func32, Tryz.ntmps32
 go_wp2_with (first | (go_at_call 66; ((with_reducible refine HG.out.mono ?_); rintro e w4 ⟨rfl, h4⟩; subst w4; simp only [bodyV])))
 go_ret
 exact ⟨rfl, rfl⟩
abbrev lenB : ByteArray := ⟨#[0, 108, 0, 101, 0, 110, 0, 103, 0, 116, 0, 104]⟩
theorem isLen_plain {w : World} {o : Nat} {cl proto : Int} {cs : Bool} {pv ev fn : Value} {kd : KD} (hb : Box w o 63 (objF cl proto cs pv ev fn kd)) (hc : (cl == 1) = false) (k : Vt) : Calls Tryz.prog 107 #[.pointer (some ⟨o, 0, none⟩), valV k] w fun e w' => e = .returned (.bool false) /\ Below w.heap.size w w' := by
 have b1 : Below w.heap.size w (w.alloc (.cells #[.int .i64 k.1, .int .i64 k.2.1, .string k.2.2] 28)) := (Below.refl _ _).alloc (Nat.le_refl _) _
 have c0 : (w.alloc (.cells #[.int .i64 k.1, .int .i64 k.2.1, .string k.2.2] 28)).cell? ⟨o, 0, none⟩ = some (.int .i64 cl) := (hb.below b1).at_ 0
 clear hb
 go_enter Tryz.func107, Tryz.ntmps107
 go_wp2
 go_ret
 exact ⟨rfl, b1⟩
theorem elem_plain {w : World} {o : Nat} {cl proto : Int} {cs : Bool} {pv ev fn : Value} {kd : KD} (hb : Box w o 63 (objF cl proto cs pv ev fn kd)) (hc : (cl == 1) = false) (k : Vt) : Calls Tryz.prog 109 #[.pointer (some ⟨o, 0, none⟩), valV k] w fun e w' => e = .returned (.int .i64 (-1)) /\ Below w.heap.size w w' := by
 have b1 : Below w.heap.size w (w.alloc (.cells #[.int .i64 k.1, .int .i64 k.2.1, .string k.2.2] 28)) := (Below.refl _ _).alloc (Nat.le_refl _) _
 have c0 : (w.alloc (.cells #[.int .i64 k.1, .int .i64 k.2.1, .string k.2.2] 28)).cell? ⟨o, 0, none⟩ = some (.int .i64 cl) := (hb.below b1).at_ 0
 clear hb
 go_enter Tryz.func109, Tryz.ntmps109
 go_wp2
 go_ret
 exact ⟨rfl, b1⟩
def PrAt (B : Nat) (w : World) (pv : Value) (F : Nat -> Prop) (O : List En) : Prop := (pv = .pointer none /\ O = [] /\ F = fun _ => False) \/ ∃ t, pv = .pointer (some ⟨t, 0, none⟩) /\ Tf B t F (O, []) w
theorem PrAt.on {B : Nat} {w w' : World} {pv : Value} {F : Nat -> Prop} {O : List En} (h : PrAt B w pv F O) (hb : Below w.heap.size w w') : PrAt B w' pv F O := h.imp id (fun ⟨t, h1, h2⟩ => ⟨t, h1, h2.on hb⟩)
theorem PrAt.touch {B : Nat} {w w' : World} {pv : Value} {F S : Nat -> Prop} {O : List En} (h : PrAt B w pv F O) (ht : Touch S w w') (hn : ∀ k, F k -> ¬ S k) : PrAt B w' pv F O := h.imp id (fun ⟨t, h1, h2⟩ => ⟨t, h1, h2.touch ht hn⟩)
theorem PrAt.lt {B : Nat} {w : World} {pv : Value} {F : Nat -> Prop} {O : List En} (h : PrAt B w pv F O) (k : Nat) (hk : F k) : B <= k /\ k < w.heap.size := by
 rcases h with ⟨_, _, rfl⟩ | ⟨t, h1, h2⟩
 ·exact hk.elim
 ·exact h2.lt k hk
def GotP (O : List En) (k : Vt) (e : Ending) : Prop := (∃ x ∈ O, x.1 = keyT k /\ e = .returned (.tuple #[valV x.2.1, .int .i64 x.2.2, .bool true])) \/ (¬ hasK O (keyT k) /\ e = .returned (.tuple #[zeroV, .int .i64 0, .bool false]))
theorem pget_any {B : Nat} {w : World} {pv : Value} {F : Nat -> Prop} {O : List En} (h : PrAt B w pv F O) (k : Vt) (hk : k.2.2.size <= 1000) : Calls Tryz.prog 110 #[pv, valV k] w fun e w' => GotP O k e /\ Below w.heap.size w w' := by
 rcases h with ⟨rfl, rfl, rfl⟩ | ⟨t, rfl, T, vs, vb, vc, hT, hG, ho, hF⟩
 ·refine (get_nil k w).mono ?_
  rintro e w' ⟨rfl, hb⟩
  exact ⟨.inr ⟨(by rintro ⟨x, hx, _⟩; cases hx), rfl⟩, hb⟩
 ·refine (tget_any B t T vs vb vc hG.inv k hk w hT).mono ?_
  rintro e w' ⟨hr, hb⟩
  rw [ho] at hr
  exact ⟨hr, hb⟩
def NE (cl : Int) (k : Vt) : Prop := (cl == 1) = false \/ (cl = 1 /\ k.1 = 8) \/ (cl = 1 /\ ∃ s : ByteArray, k = (7, 0, s) /\ (s.toList == [0, 108, 0, 101, 0, 110, 0, 103, 0, 116, 0, 104]) = false /\ s.size <= 16777216 /\ W.idxU (W.unitsS s) = -1)
theorem isLen_sym {w : World} {o : Nat} {proto : Int} {cs : Bool} {pv ev fn : Value} {kd : KD} (hb : Box w o 63 (objF 1 proto cs pv ev fn kd)) (k : Vt) (hk : k.1 = 8) : Calls Tryz.prog 107 #[.pointer (some ⟨o, 0, none⟩), valV k] w fun e w' => e = .returned (.bool false) /\ Below w.heap.size w w' := by
 obtain ⟨k1, k2, k3⟩ := k
 obtain rfl : k1 = 8 := hk
 have b1 : Below w.heap.size w (w.alloc (.cells #[.int .i64 8, .int .i64 k2, .string k3] 28)) := (Below.refl _ _).alloc (Nat.le_refl _) _
 have c0 : (w.alloc (.cells #[.int .i64 8, .int .i64 k2, .string k3] 28)).cell? ⟨o, 0, none⟩ = some (.int .i64 1) := (hb.below b1).at_ 0
 clear hb
 go_enter Tryz.func107, Tryz.ntmps107
 go_wp2
 go_ret
 exact ⟨rfl, b1⟩
theorem elem_sym {w : World} {o : Nat} {proto : Int} {cs : Bool} {pv ev fn : Value} {kd : KD} (hb : Box w o 63 (objF 1 proto cs pv ev fn kd)) (k : Vt) (hk : k.1 = 8) : Calls Tryz.prog 109 #[.pointer (some ⟨o, 0, none⟩), valV k] w fun e w' => e = .returned (.int .i64 (-1)) /\ Below w.heap.size w w' := by
 obtain ⟨k1, k2, k3⟩ := k
 obtain rfl : k1 = 8 := hk
 have b1 : Below w.heap.size w (w.alloc (.cells #[.int .i64 8, .int .i64 k2, .string k3] 28)) := (Below.refl _ _).alloc (Nat.le_refl _) _
 have c0 : (w.alloc (.cells #[.int .i64 8, .int .i64 k2, .string k3] 28)).cell? ⟨o, 0, none⟩ = some (.int .i64 1) := (hb.below b1).at_ 0
 clear hb
 go_enter Tryz.func109, Tryz.ntmps109
 go_wp2
 go_ret
 exact ⟨rfl, b1⟩
theorem isLen_noF {w : World} {o : Nat} {proto : Int} {cs : Bool} {pv ev fn : Value} {kd : KD} (hb : Box w o 63 (objF 1 proto cs pv ev fn kd)) (s : ByteArray) (hbe : (s.toList == [0, 108, 0, 101, 0, 110, 0, 103, 0, 116, 0, 104]) = false) : Calls Tryz.prog 107 #[.pointer (some ⟨o, 0, none⟩), valV (7, 0, s)] w fun e w' => e = .returned (.bool false) /\ Below w.heap.size w w' := by
 have b1 : Below w.heap.size w (w.alloc (.cells #[.int .i64 7, .int .i64 0, .string s] 28)) := (Below.refl _ _).alloc (Nat.le_refl _) _
 have c0 : (w.alloc (.cells #[.int .i64 7, .int .i64 0, .string s] 28)).cell? ⟨o, 0, none⟩ = some (.int .i64 1) := (hb.below b1).at_ 0
 clear hb
 go_enter Tryz.func107, Tryz.ntmps107
 go_wp2
 go_ret
 exact ⟨rfl, b1⟩
theorem elem_arrF {w : World} {o : Nat} {proto : Int} {cs : Bool} {pv ev fn : Value} {kd : KD} (hb : Box w o 63 (objF 1 proto cs pv ev fn kd)) (s : ByteArray) (hs : s.size <= 16777216) (i : Int) (hi : W.idxU (W.unitsS s) = i) : Calls Tryz.prog 109 #[.pointer (some ⟨o, 0, none⟩), valV (7, 0, s)] w fun e w' => e = .returned (.int .i64 i) /\ Below w.heap.size w w' := by
 have b1 : Below w.heap.size w (w.alloc (.cells #[.int .i64 7, .int .i64 0, .string s] 28)) := (Below.refl _ _).alloc (Nat.le_refl _) _
 have c0 : (w.alloc (.cells #[.int .i64 7, .int .i64 0, .string s] 28)).cell? ⟨o, 0, none⟩ = some (.int .i64 1) := (hb.below b1).at_ 0
 have HIX : Veil (∀ w, Calls Tryz.prog 118 #[.string s] w fun e w' => e = .returned (.int .i64 i) /\ Below w.heap.size w w') := ⟨fun w => W.index_at s i hs (show Hid _ from hi) w⟩
 clear hb hi
 go_enter Tryz.func109, Tryz.ntmps109
 go_wp2_with (go_at_call 118; ((with_reducible refine (HIX.out _).mono ?_); rintro e w2 ⟨rfl, hb2⟩))
 go_ret
 exact ⟨rfl, b1.trans (hb2.mono b1.size)⟩
theorem NE.isLen {w : World} {o : Nat} {cl proto : Int} {cs : Bool} {pv ev fn : Value} {kd : KD} {k : Vt} (h : NE cl k) (hb : Box w o 63 (objF cl proto cs pv ev fn kd)) : Calls Tryz.prog 107 #[.pointer (some ⟨o, 0, none⟩), valV k] w fun e w' => e = .returned (.bool false) /\ Below w.heap.size w w' := by
 rcases h with h | ⟨rfl, h⟩ | ⟨rfl, s, rfl, h1, h2, h3⟩
 ·exact isLen_plain hb h k
 ·exact isLen_sym hb k h
 ·exact isLen_noF hb s h1
theorem NE.elem {w : World} {o : Nat} {cl proto : Int} {cs : Bool} {pv ev fn : Value} {kd : KD} {k : Vt} (h : NE cl k) (hb : Box w o 63 (objF cl proto cs pv ev fn kd)) : Calls Tryz.prog 109 #[.pointer (some ⟨o, 0, none⟩), valV k] w fun e w' => e = .returned (.int .i64 (-1)) /\ Below w.heap.size w w' := by
 rcases h with h | ⟨rfl, h⟩ | ⟨rfl, s, rfl, h1, h2, h3⟩
 ·exact elem_plain hb h k
 ·exact elem_sym hb k h
 ·exact elem_arrF hb s h2 (-1) h3
inductive Kd where
 | val (P : Value -> Prop)
 | box (T : TypeId) (z : Array Value) (st src : Nat)
 | sto (bx src : Nat)
def flat : Value -> Array Value
 | .agg xs => xs
 | v => #[v]
def upd {α : Type} (f : Nat -> α) (i : Nat) (v : α) : Nat -> α := fun j => if j = i then v else f j
theorem upd_same {α : Type} (f : Nat -> α) (i : Nat) (v : α) : upd f i v i = v := by simp [upd]
theorem upd_ne {α : Type} (f : Nat -> α) {i j : Nat} (v : α) (h : j ≠ i) : upd f i v j = f j := by simp [upd, h]
structure Fit (ks : List Kd) : Prop where
 st : ∀ (i : Nat) T z st src, ks[i]? = some (.box T z st src) -> ks[st]? = some (.sto i src)
 src : ∀ (i : Nat) b s, ks[i]? = some (.sto b s) -> (∃ P, ks[s]? = some (.val P)) /\ ∃ T z, ks[b]? = some (.box T z i s)
def fitB (ks : List Kd) : Bool := (List.range ks.length).all fun i => match ks[i]? with
 | some (.box _ _ st src) => (match ks[st]? with | some (.sto b s) => b == i && s == src | _ => false)
 | some (.sto b s) => (match ks[s]? with | some (.val _) => true | _ => false) && (match ks[b]? with | some (.box _ _ st src) => st == i && src == s | _ => false)
 | _ => true
theorem fit_of {ks : List Kd} (h : fitB ks = true) : Fit ks := by
 unfold fitB at h
 rw [List.all_eq_true] at h
 refine ⟨fun i T z st src hi => ?_, fun i b s hi => ?_⟩
 ·have := h i (List.mem_range.2 (List.getElem?_eq_some_iff.1 hi).1)
  rw [hi] at this
  simp only at this
  split at this
  ·rename_i b s hs
   simp only [Bool.and_eq_true, beq_iff_eq] at this
   rw [hs, this.1, this.2]
  ·cases this
 ·have := h i (List.mem_range.2 (List.getElem?_eq_some_iff.1 hi).1)
  rw [hi] at this
  simp only [Bool.and_eq_true] at this
  obtain ⟨h1, h2⟩ := this
  split at h1
  ·rename_i P hP
   split at h2
   ·rename_i T z st src hb
    simp only [Bool.and_eq_true, beq_iff_eq] at h2
    exact ⟨⟨P, hP⟩, T, z, by rw [hb, h2.1, h2.2]⟩
   ·cases h2
  ·cases h1
structure JI (ks : List Kd) (W1 : World) (d : Nat -> Bool) (us : Nat -> Value) (w : World) : Prop where
 below : Below W1.heap.size W1 w
 val : ∀ (i : Nat) P, ks[i]? = some (.val P) -> d i = true -> P (us i)
 box : ∀ (i : Nat) T z st src, ks[i]? = some (.box T z st src) -> d i = true -> ∃ g, us i = .pointer (some ⟨g, 0, none⟩) /\ W1.heap.size <= g /\ Box w g T (if d st then flat (us src) else z)
 apart : ∀ (i j : Nat) T z st src T' z' st' src', ks[i]? = some (.box T z st src) -> ks[j]? = some (.box T' z' st' src') -> i ≠ j -> d i = true -> d j = true -> us i ≠ us j
 sto : ∀ (i : Nat) b s, ks[i]? = some (.sto b s) -> d i = true -> d b = true /\ d s = true
section
variable {ks : List Kd} {W1 w w' : World} {d : Nat -> Bool} {us : Nat -> Value}
theorem JI.start (ks : List Kd) (W1 : World) (us : Nat -> Value) : JI ks W1 (fun _ => false) us W1.drew :=
 ⟨(Below.refl _ _).drew, nofun, nofun, nofun, nofun⟩
theorem JI.stepVal (h : JI ks W1 d us w) (i : Nat) (P : Value -> Prop) (v : Value) (hf : Fit ks) (hk : ks[i]? = some (.val P)) (hd : d i = false) (hP : P v) (hb : Below w.heap.size w w') : JI ks W1 (upd d i true) (upd us i v) w' := by
 refine ⟨h.below.trans (hb.mono h.below.size), fun j Q hj hdj => ?_, fun j T z st src hj hdj => ?_, fun j k T z st src T' z' st' src' hj hk' hne hdj hdk => ?_, fun j b s hj hdj => ?_⟩
 ·by_cases e : j = i
  ·subst e
   rw [hk] at hj
   cases hj
   rw [upd_same]
   exact hP
  ·rw [upd_ne _ _ e] at hdj ⊢
   exact h.val j Q hj hdj
 ·have e : j ≠ i := fun e => by subst e; rw [hk] at hj; cases hj
  rw [upd_ne _ _ e] at hdj ⊢
  obtain ⟨g, h1, h2, h3⟩ := h.box j T z st src hj hdj
  have hst := hf.st j T z st src hj
  have e2 : st ≠ i := fun e => by subst e; rw [hk] at hst; cases hst
  refine ⟨g, h1, h2, ?_⟩
  rw [upd_ne _ _ e2]
  cases hds : d st with
  | false => rw [hds] at h3; exact h3.on hb h3.lt
  | true =>
   have e3 : src ≠ i := fun e => by subst e; rw [(h.sto st j src hst hds).2] at hd; cases hd
   rw [upd_ne _ _ e3]
   rw [hds] at h3
   exact h3.on hb h3.lt
 ·have e : j ≠ i := fun e => by subst e; rw [hk] at hj; cases hj
  have e' : k ≠ i := fun e => by subst e; rw [hk] at hk'; cases hk'
  rw [upd_ne _ _ e] at hdj ⊢
  rw [upd_ne _ _ e'] at hdk ⊢
  exact h.apart j k T z st src T' z' st' src' hj hk' hne hdj hdk
 ·have e : j ≠ i := fun e => by subst e; rw [hk] at hj; cases hj
  rw [upd_ne _ _ e] at hdj
  obtain ⟨h1, h2⟩ := h.sto j b s hj hdj
  have e1 : b ≠ i := fun e => by subst e; rw [h1] at hd; cases hd
  have e2 : s ≠ i := fun e => by subst e; rw [h2] at hd; cases hd
  rw [upd_ne _ _ e1, upd_ne _ _ e2]
  exact ⟨h1, h2⟩
theorem JI.stepBox (h : JI ks W1 d us w) (i : Nat) (T : TypeId) (z : Array Value) (st src : Nat) (hf : Fit ks) (hk : ks[i]? = some (.box T z st src)) (hd : d i = false) : JI ks W1 (upd d i true) (upd us i (.pointer (some ⟨w.heap.size, 0, none⟩))) (w.alloc (.cells z T)) := by
 have hb : Below w.heap.size w (w.alloc (.cells z T)) := (Below.refl _ _).alloc (Nat.le_refl _) _
 refine ⟨h.below.trans (hb.mono h.below.size), fun j Q hj hdj => ?_, fun j T' z' st' src' hj hdj => ?_, fun j k T z st src T' z' st' src' hj hk' hne hdj hdk => ?_, fun j b s hj hdj => ?_⟩
 ·have e : j ≠ i := fun e => by subst e; rw [hk] at hj; cases hj
  rw [upd_ne _ _ e] at hdj ⊢
  exact h.val j Q hj hdj
 ·have hst := hf.st j T' z' st' src' hj
  have e2 : st' ≠ i := fun e => by subst e; rw [hk] at hst; cases hst
  obtain ⟨⟨P, hp⟩, -⟩ := hf.src st' j src' hst
  have e3 : src' ≠ i := fun e => by subst e; rw [hk] at hp; cases hp
  rw [upd_ne _ _ e2, upd_ne _ _ e3]
  by_cases e : j = i
  ·subst e
   rw [hk] at hj
   cases hj
   have hds : d st = false := by
    cases hds : d st with
    | false => rfl
    | true => rw [(h.sto st j src hst hds).1] at hd; cases hd
   rw [hds]
   exact ⟨w.heap.size, upd_same _ _ _, h.below.size, Box.new w T z⟩
  ·rw [upd_ne _ _ e] at hdj ⊢
   obtain ⟨g, h1, h2, h3⟩ := h.box j T' z' st' src' hj hdj
   exact ⟨g, h1, h2, h3.on hb h3.lt⟩
 ·have away : ∀ m T z st src, ks[m]? = some (.box T z st src) -> m ≠ i -> upd d i true m = true -> us m ≠ .pointer (some ⟨w.heap.size, 0, none⟩) := fun m T z st src hm e hdm => by
   rw [upd_ne _ _ e] at hdm
   obtain ⟨g, h1, h2, h3⟩ := h.box m T z st src hm hdm
   rw [h1]
   intro e2
   injection e2 with e2
   injection e2 with e2
   injection e2 with e2
   have := h3.lt
   omega
  by_cases e : j = i
  ·subst e
   have e' : k ≠ j := fun e => hne e.symm
   rw [upd_same, upd_ne _ _ e']
   exact fun e2 => away k T' z' st' src' hk' e' hdk e2.symm
  ·rw [upd_ne _ _ e]
   by_cases e' : k = i
   ·subst e'
    rw [upd_same]
    exact away j T z st src hj e hdj
   ·rw [upd_ne _ _ e']
    rw [upd_ne _ _ e] at hdj
    rw [upd_ne _ _ e'] at hdk
    exact h.apart j k T z st src T' z' st' src' hj hk' hne hdj hdk
 ·have e : j ≠ i := fun e => by subst e; rw [hk] at hj; cases hj
  rw [upd_ne _ _ e] at hdj
  obtain ⟨h1, h2⟩ := h.sto j b s hj hdj
  have e1 : b ≠ i := fun e => by subst e; rw [h1] at hd; cases hd
  have e2 : s ≠ i := fun e => by subst e; rw [h2] at hd; cases hd
  rw [upd_ne _ _ e1, upd_ne _ _ e2]
  exact ⟨h1, h2⟩
theorem JI.stepSto (h : JI ks W1 d us w) (i b s : Nat) (hf : Fit ks) (hk : ks[i]? = some (.sto b s)) (hd : d i = false) (hdb : d b = true) (hds : d s = true) :
  ∃ g T z, ks[b]? = some (.box T z i s) /\ us b = .pointer (some ⟨g, 0, none⟩) /\ Box w g T z /\ ∀ (u : Value) w', Box w' g T (flat (us s)) -> Touch (fun k => k = g) w w' -> JI ks W1 (upd d i true) (upd us i u) w' := by
 obtain ⟨⟨P, hp⟩, T, z, hbx⟩ := hf.src i b s hk
 obtain ⟨g, h1, h2, h3⟩ := h.box b T z i s hbx hdb
 rw [hd] at h3
 refine ⟨g, T, z, hbx, h1, h3, fun u w' hb ht => ?_⟩
 refine ⟨h.below.trans (ht.below h.below.size (fun k hk => by rw [hk]; exact h2)), fun j Q hj hdj => ?_, fun j T' z' st' src' hj hdj => ?_, fun j k T z st src T' z' st' src' hj hk' hne hdj hdk => ?_, fun j b' s' hj hdj => ?_⟩
 ·have e : j ≠ i := fun e => by subst e; rw [hk] at hj; cases hj
  rw [upd_ne _ _ e] at hdj ⊢
  exact h.val j Q hj hdj
 ·have e : j ≠ i := fun e => by subst e; rw [hk] at hj; cases hj
  rw [upd_ne _ _ e] at hdj ⊢
  have hst := hf.st j T' z' st' src' hj
  obtain ⟨⟨P', hp'⟩, -⟩ := hf.src st' j src' hst
  have e3 : src' ≠ i := fun e => by subst e; rw [hk] at hp'; cases hp'
  rw [upd_ne _ _ e3]
  by_cases ej : j = b
  ·subst ej
   rw [hbx] at hj
   cases hj
   rw [upd_same]
   exact ⟨g, h1, h2, hb⟩
  ·obtain ⟨g', k1, k2, k3⟩ := h.box j T' z' st' src' hj hdj
   have e2 : st' ≠ i := fun e => by subst e; rw [hk] at hst; cases hst; exact ej rfl
   rw [upd_ne _ _ e2]
   refine ⟨g', k1, k2, k3.touch ht (fun e => ?_)⟩
   have := h.apart j b T' z' st' src' T z i s hj hbx ej hdj hdb
   rw [k1, h1, e] at this
   exact this rfl
 ·have e : j ≠ i := fun e => by subst e; rw [hk] at hj; cases hj
  have e' : k ≠ i := fun e => by subst e; rw [hk] at hk'; cases hk'
  rw [upd_ne _ _ e] at hdj ⊢
  rw [upd_ne _ _ e'] at hdk ⊢
  exact h.apart j k T z st src T' z' st' src' hj hk' hne hdj hdk
 ·have key : ∀ b' s', d b' = true /\ d s' = true -> upd d i true b' = true /\ upd d i true s' = true := fun b' s' ⟨q1, q2⟩ => by
   refine ⟨?_, ?_⟩
   ·by_cases e : b' = i
    ·rw [e, upd_same]
    ·rw [upd_ne _ _ e]; exact q1
   ·by_cases e : s' = i
    ·rw [e, upd_same]
    ·rw [upd_ne _ _ e]; exact q2
  by_cases e : j = i
  ·subst e
   rw [hk] at hj
   cases hj
   exact key _ _ ⟨hdb, hds⟩
  ·rw [upd_ne _ _ e] at hdj
   exact key _ _ (h.sto j b' s' hj hdj)
end
def setAll (tmps : Array Value) : List (Option Nat) -> List Value -> Array Value
 | some s :: ss, u :: us => setAll (tmps.setIfInBounds s u) ss us
 | none :: ss, _ :: us => setAll tmps ss us
 | _, _ => tmps
def puts (a : Act) (ss : List (Option Nat)) (us : List Value) : Act := { a with tmps := setAll a.tmps ss us }
def bget (b : Array Bool) : Nat -> Bool := fun i => b.getD i false
def uget (us : List Value) : Nat -> Value := fun i => us.getD i undef
theorem bget_set {b : Array Bool} {i : Nat} (h : i < b.size) : bget (b.setIfInBounds i true) = upd (bget b) i true := by
 funext j
 unfold bget upd
 by_cases e : j = i
 ·subst e; rw [if_pos rfl]; exact set_same h
 ·rw [if_neg e]; exact set_other (fun e2 => e e2.symm)
theorem uget_set {us : List Value} {i : Nat} (v : Value) (h : i < us.length) : uget (us.set i v) = upd (uget us) i v := by
 funext j
 unfold uget upd
 by_cases e : j = i
 ·subst e; simp [List.getD, h]
 ·rw [if_neg e]; simp [List.getD, List.getElem?_set_ne (fun e2 => e e2.symm)]
def GInv (ks : List Kd) (W1 : World) (a0 : Act) (ss : List (Option Nat)) (b : Array Bool) (a : Act) (w : World) : Prop :=
 ∃ us : List Value, us.length = ks.length /\ a = puts a0 ss us /\ JI ks W1 (bget b) (uget us) w
def earlierB (l : List Oper) : Bool := (List.range l.length).all fun i => match l[i]? with | some o => o.after.all (fun e => !Region.binds .any e || decide (e.on < i)) | none => false
theorem all_done {l : List Oper} (h : earlierB l = true) {b : Array Bool} (hs : b.size = l.length) (hr : Region.ready .any l.toArray b = []) : ∀ i, i < l.length -> b.getD i false = true := by
 intro i
 induction i using Nat.strongRecOn with
 | _ i ih =>
  intro hi
  cases hb : b.getD i false with
  | true => rfl
  | false =>
   exfalso
   have hm : i ∈ Region.ready .any l.toArray b := by
    refine mem_ready.2 ⟨?_, l[i], by simp [hi], fun e he hbd => ?_⟩
    ·have h1 : i < b.size := by omega
     simp [h1] at hb ⊢
     exact hb
    ·have h1 := List.all_eq_true.1 h i (List.mem_range.2 hi)
     rw [List.getElem?_eq_getElem hi] at h1
     have h2 := Array.all_eq_true_iff_forall_mem.1 h1 e he
     have h3 : e.on < i := by rw [hbd] at h2; simpa using h2
     exact ih e.on h3 (by omega)
   rw [hr] at hm
   cases hm
theorem wp_region_gen {P : Program} {Q : Exit -> Act -> World -> Prop} {id : Nat} {a : Act} {w : World} {l : List Oper} (ks : List Kd) (ss : List (Option Nat)) (us0 : List Value) (hm : P.follows .mixedOrders = true) (hl : l.length = ks.length) (hl0 : us0.length = ks.length)
  (hu : a = puts a ss us0) (hs : Steps P .any l.toArray Q (GInv ks w a ss) 0 l) (hfull : earlierB l = true)
  (hend : ∀ (us : List Value) (w' : World), us.length = ks.length -> (∀ d : Nat -> Bool, (∀ i, i < ks.length -> d i = true) -> JI ks w d (uget us) w' -> Q .normal (puts a ss us) w')) : (Code.region id l.toArray true).wp P Q a w := by
 refine wp_region_inv hm (GInv ks w a ss) ?_ hs ?_
 ·refine ⟨us0, hl0, hu, ?_⟩
  have e : bget (Array.replicate l.length false) = fun _ => false := by
   funext i
   unfold bget
   by_cases h : i < l.length
   ·simp [h]
   ·simp [h]
  rw [e]
  exact JI.start ks w (uget us0)
 ·rintro b a' w' hb hr ⟨us, hus, rfl, hI⟩
  have hf := all_done hfull hb hr
  exact hend us w' hus (bget b) (fun i hi => hf i (by omega)) hI
theorem gen_val {ks : List Kd} {W1 w w' : World} {b : Array Bool} {us : List Value} {a a0 : Act} {ss : List (Option Nat)} (hI : JI ks W1 (bget b) (uget us) w) (hu : us.length = ks.length) (hbs : b.size = ks.length) (i : Nat) (P : Value -> Prop) (v : Value) (hi : i < ks.length) (hf : Fit ks) (hk : ks[i]? = some (.val P)) (hd : b.getD i false = false) (hP : P v) (hb : Below w.heap.size w w') (ha : a = puts a0 ss (us.set i v)) :
  GInv ks W1 a0 ss (b.setIfInBounds i true) a w' := by
 refine ⟨us.set i v, by rw [List.length_set]; exact hu, ha, ?_⟩
 rw [bget_set (by omega), uget_set v (by omega)]
 exact hI.stepVal i P v hf hk hd hP hb
theorem gen_box {ks : List Kd} {W1 w : World} {b : Array Bool} {us : List Value} {a a0 : Act} {ss : List (Option Nat)} (hI : JI ks W1 (bget b) (uget us) w) (hu : us.length = ks.length) (hbs : b.size = ks.length) (i : Nat) (T : TypeId) (z : Array Value) (st src : Nat) (hi : i < ks.length) (hf : Fit ks) (hk : ks[i]? = some (.box T z st src)) (hd : b.getD i false = false) (ha : a = puts a0 ss (us.set i (.pointer (some ⟨w.heap.size, 0, none⟩)))) :
  GInv ks W1 a0 ss (b.setIfInBounds i true) a (w.alloc (.cells z T)) := by
 refine ⟨us.set i _, by rw [List.length_set]; exact hu, ha, ?_⟩
 rw [bget_set (by omega), uget_set _ (by omega)]
 exact hI.stepBox i T z st src hf hk hd
theorem gen_sto {ks : List Kd} {W1 w : World} {b : Array Bool} {us : List Value} (hI : JI ks W1 (bget b) (uget us) w) (hu : us.length = ks.length) (hbs : b.size = ks.length) (i bx s : Nat) (T : TypeId) (z : Array Value) (hi : i < ks.length) (hf : Fit ks) (hk : ks[i]? = some (.sto bx s)) (hkb : ks[bx]? = some (.box T z i s)) (hd : b.getD i false = false) (hdb : b.getD bx false = true) (hds : b.getD s false = true) :
  ∃ g, uget us bx = .pointer (some ⟨g, 0, none⟩) /\ Box w g T z /\ ∀ (a a0 : Act) (ss : List (Option Nat)) w', Box w' g T (flat (uget us s)) -> Touch (fun k => k = g) w w' -> a = puts a0 ss us -> GInv ks W1 a0 ss (b.setIfInBounds i true) a w' := by
 obtain ⟨g, T', z', h1, h2, h3, h4⟩ := hI.stepSto i bx s hf hk hd hdb hds
 rw [hkb] at h1
 cases h1
 refine ⟨g, h2, h3, fun a a0 ss w' hb ht ha => ⟨us, hu, ha, ?_⟩⟩
 rw [bget_set (by omega)]
 have := h4 (uget us i) w' hb ht
 have e : upd (uget us) i (uget us i) = uget us := by funext j; unfold upd; split <;> simp_all
 rwa [e] at this
theorem gen_after {o : Oper} {b : Array Bool} (j : Nat) (h : (o.after.any fun e => Region.binds .any e && e.on == j) = true) (hb : ∀ e ∈ o.after, Region.binds .any e = true -> b.getD e.on false = true) : b.getD j false = true := by
 obtain ⟨e, he, h⟩ := Array.any_eq_true'.1 h
 simp only [Bool.and_eq_true, beq_iff_eq] at h
 have := hb e he h.1
 rwa [h.2] at this
theorem touch3 (w : World) (g : Nat) (a b c : Value) : Touch (fun k => k = g) w (((w.setCell ⟨g, 0, none⟩ a).setCell ⟨g, 1, none⟩ b).setCell ⟨g, 2, none⟩ c) :=
 ((Touch.put (S := fun k => k = g) rfl _ _).trans (Touch.put (S := fun k => k = g) rfl _ _)).trans (Touch.put (S := fun k => k = g) rfl _ _)
structure CJ (l : List Oper) (ks : List (Option (Value -> Prop))) (Ph : (Nat -> Bool) -> (Nat -> Value) -> World -> Prop) (d : Nat -> Bool) (us : Nat -> Value) (w : World) : Prop where
 val : ∀ (i : Nat) P, ks[i]? = some (some P) -> d i = true -> P (us i)
 done : ∀ (i : Nat) o, l[i]? = some o -> d i = true -> ∀ e ∈ o.after, Region.binds .any e = true -> d e.on = true
 ph : Ph d us w
def CInv (l : List Oper) (ks : List (Option (Value -> Prop))) (Ph : (Nat -> Bool) -> (Nat -> Value) -> World -> Prop) (a0 : Act) (ss : List (Option Nat)) (b : Array Bool) (a : Act) (w : World) : Prop :=
 ∃ us : List Value, us.length = ks.length /\ a = puts a0 ss us /\ CJ l ks Ph (bget b) (uget us) w
theorem CJ.before {l : List Oper} {ks : List (Option (Value -> Prop))} {Ph : (Nat -> Bool) -> (Nat -> Value) -> World -> Prop} {d : Nat -> Bool} {us : Nat -> Value} {w : World} (h : CJ l ks Ph d us w) (i j : Nat) {o : Oper} (ho : l[i]? = some o) (ha : (o.after.any fun e => Region.binds .any e && e.on == j) = true) (hj : d j = false) : d i = false := by
 cases hi : d i with
 | false => rfl
 | true =>
  obtain ⟨e, he, h2⟩ := Array.any_eq_true'.1 ha
  simp only [Bool.and_eq_true, beq_iff_eq] at h2
  have := h.done i o ho hi e he h2.1
  rw [h2.2, hj] at this
  cases this
theorem chain_step {l : List Oper} {ks : List (Option (Value -> Prop))} {Ph : (Nat -> Bool) -> (Nat -> Value) -> World -> Prop} {b : Array Bool} {us : List Value} {a a0 : Act} {ss : List (Option Nat)} {w w' : World} (h : CJ l ks Ph (bget b) (uget us) w) (hu : us.length = ks.length) (hbs : b.size = ks.length) (i : Nat) (v : Value) (hi : i < ks.length) {o : Oper} (ho : l[i]? = some o)
  (hbp : ∀ e ∈ o.after, Region.binds .any e = true -> b.getD e.on false = true) (hP : ∀ P, ks[i]? = some (some P) -> P v) (hph : Ph (upd (bget b) i true) (upd (uget us) i v) w') (ha : a = puts a0 ss (us.set i v)) : CInv l ks Ph a0 ss (b.setIfInBounds i true) a w' := by
 refine ⟨us.set i v, by rw [List.length_set]; exact hu, ha, ?_⟩
 rw [bget_set (by omega), uget_set v (by omega)]
 refine ⟨fun j P hj hd => ?_, fun j o' hj hd e he hb => ?_, hph⟩
 ·by_cases e : j = i
  ·subst e
   rw [upd_same]
   exact hP P hj
  ·rw [upd_ne _ _ e] at hd ⊢
   exact h.val j P hj hd
 ·have key : bget b e.on = true -> upd (bget b) i true e.on = true := fun h => by
   by_cases e2 : e.on = i
   ·rw [e2, upd_same]
   ·rw [upd_ne _ _ e2]; exact h
  by_cases e2 : j = i
  ·subst e2
   rw [ho] at hj
   cases hj
   exact key (hbp e he hb)
  ·rw [upd_ne _ _ e2] at hd
   exact key (h.done j o' hj hd e he hb)
theorem val_of {ks : List (Option (Value -> Prop))} {i : Nat} {P0 : Value -> Prop} {v : Value} (hk : ks[i]? = some (some P0)) (hv : P0 v) : ∀ P, ks[i]? = some (some P) -> P v := fun P h => by
 rw [hk] at h
 cases h
 exact hv
theorem none_of {ks : List (Option (Value -> Prop))} {i : Nat} {v : Value} (hk : ks[i]? = some none) : ∀ P, ks[i]? = some (some P) -> P v := fun P h => by
 rw [hk] at h
 cases h
theorem wp_region_chain {P : Program} {Q : Exit -> Act -> World -> Prop} {id : Nat} {a : Act} {w : World} {l : List Oper} (ks : List (Option (Value -> Prop))) (Ph : (Nat -> Bool) -> (Nat -> Value) -> World -> Prop) (ss : List (Option Nat)) (us0 : List Value) (hm : P.follows .mixedOrders = true) (hl : l.length = ks.length) (hl0 : us0.length = ks.length)
  (hu : a = puts a ss us0) (hph : Ph (fun _ => false) (uget us0) w.drew) (hs : Steps P .any l.toArray Q (CInv l ks Ph a ss) 0 l) (hfull : earlierB l = true)
  (hend : ∀ (us : List Value) (w' : World), us.length = ks.length -> ∀ d : Nat -> Bool, (∀ i, i < ks.length -> d i = true) -> CJ l ks Ph d (uget us) w' -> Q .normal (puts a ss us) w') : (Code.region id l.toArray true).wp P Q a w := by
 refine wp_region_inv hm (CInv l ks Ph a ss) ?_ hs ?_
 ·refine ⟨us0, hl0, hu, ?_⟩
  have e : bget (Array.replicate l.length false) = fun _ => false := by
   funext i
   unfold bget
   by_cases h : i < l.length
   ·simp [h]
   ·simp [h]
  rw [e]
  exact ⟨fun _ _ _ h => Bool.noConfusion h, fun _ _ _ h => Bool.noConfusion h, hph⟩
 ·intro b a' w' hb hr hI
  have hf := all_done hfull hb hr
  unfold CInv at hI
  obtain ⟨us, hus, ha, hJ⟩ := hI
  rw [ha]
  exact hend us w' hus (bget b) (fun i hi => hf i (by omega)) hJ
section
variable {W1 : World} {B : Nat} {T : TypeId} {sz n : Nat} {xs cs : List Value} {vl : Value} {g f bs ap st : Nat} {d : Nat -> Bool} {us : Nat -> Value} {w : World}
end
def LPh (cs : List Nat) (St : Nat -> (Nat -> Value) -> World -> Prop) (d : Nat -> Bool) (us : Nat -> Value) (w : World) : Prop :=
 ∃ s, s <= cs.length /\ (∀ j c, cs[j]? = some c -> (d c = true ↔ j < s)) /\ St s (fun j => us (cs.getD j 1000000)) w
section
variable {cs : List Nat} {St : Nat -> (Nat -> Value) -> World -> Prop} {d : Nat -> Bool} {us : Nat -> Value} {w w' : World}
theorem LPh.start (h : St 0 (fun j => us (cs.getD j 1000000)) w) : LPh cs St (fun _ => false) us w := ⟨0, Nat.zero_le _, fun j c _ => by simp, h⟩
theorem getD_of {cs : List Nat} {j : Nat} (h : j < cs.length) : cs[j]? = some (cs.getD j 1000000) := by
 rw [List.getD_eq_getElem?_getD, List.getElem?_eq_getElem h]
 rfl
theorem LPh.step (h : LPh cs St d us w) (i : Nat) (v : Value) (hi : cs.contains i = false) (h0 : i ≠ 1000000) : LPh cs St (upd d i true) (upd us i v) w := by
 obtain ⟨s, h1, h2, h3⟩ := h
 have hn : ∀ j c, cs[j]? = some c -> c ≠ i := fun j c hc e => by
  subst e
  have := List.mem_of_getElem? hc
  rw [List.contains_iff_mem.2 this] at hi
  cases hi
 refine ⟨s, h1, fun j c hc => by rw [upd_ne _ _ (hn j c hc)]; exact h2 j c hc, ?_⟩
 have key : ∀ j, j < cs.length -> us (cs.getD j 1000000) = upd us i v (cs.getD j 1000000) := fun j hj => (upd_ne _ _ (hn j _ (getD_of hj))).symm
 have : (fun j => upd us i v (cs.getD j 1000000)) = fun j => us (cs.getD j 1000000) := by
  funext j
  rcases Nat.lt_or_ge j cs.length with hj | hj
  ·exact (key j hj).symm
  ·have : cs.getD j 1000000 = 1000000 := by rw [List.getD_eq_getElem?_getD, List.getElem?_eq_none hj]; rfl
   rw [this, upd_ne _ _ (fun e => h0 e.symm)]
 rw [this]
 exact h3
theorem LPh.at_ (h : LPh cs St d us w) (j c : Nat) (hc : cs[j]? = some c) (hd : d c = false) (hp : j = 0 \/ ∃ c', cs[j - 1]? = some c' /\ d c' = true) : St j (fun j => us (cs.getD j 1000000)) w := by
 obtain ⟨s, h1, h2, h3⟩ := h
 have a1 : ¬ j < s := fun hlt => by rw [(h2 j c hc).2 hlt] at hd; cases hd
 have a2 : j <= s := by
  rcases hp with rfl | ⟨c', hc', hd'⟩
  ·exact Nat.zero_le _
  ·have := (h2 (j - 1) c' hc').1 hd'
   omega
 have : s = j := by omega
 subst this
 exact h3
theorem LPh.next (h : LPh cs St d us w) (j c : Nat) (v : Value) (hc : cs[j]? = some c) (hd : d c = false) (hp : j = 0 \/ ∃ c', cs[j - 1]? = some c' /\ d c' = true) (nd : cs.Nodup) (hS : St (j + 1) (fun j => upd us c v (cs.getD j 1000000)) w') : LPh cs St (upd d c true) (upd us c v) w' := by
 obtain ⟨s, h1, h2, h3⟩ := h
 have a1 : ¬ j < s := fun hlt => by rw [(h2 j c hc).2 hlt] at hd; cases hd
 have a2 : j <= s := by
  rcases hp with rfl | ⟨c', hc', hd'⟩
  ·exact Nat.zero_le _
  ·have := (h2 (j - 1) c' hc').1 hd'
   omega
 have hs : s = j := by omega
 subst hs
 have hlt := (List.getElem?_eq_some_iff.1 hc).1
 refine ⟨s + 1, hlt, fun k c' hc' => ?_, hS⟩
 by_cases e : c' = c
 ·subst e
  rw [upd_same]
  have : k = s := by
   have hk := (List.getElem?_eq_some_iff.1 hc').1
   exact (List.getElem?_inj hk nd).1 (hc'.trans hc.symm)
  simp
  omega
 ·rw [upd_ne _ _ e]
  have hne : k ≠ s := fun e2 => by
   subst e2
   rw [hc] at hc'
   injection hc' with hc'
   exact e hc'.symm
  have := h2 k c' hc'
  constructor
  ·intro hd'
   have := this.1 hd'
   omega
  ·intro hk
   exact this.2 (by omega)
theorem LPh.all (h : LPh cs St d us w) (hd : ∀ c ∈ cs, d c = true) : St cs.length (fun j => us (cs.getD j 1000000)) w := by
 obtain ⟨s, h1, h2, h3⟩ := h
 have : s = cs.length := by
  rcases Nat.lt_or_ge s cs.length with hlt | hge
  ·have hc := List.getElem?_eq_getElem hlt
   have := (h2 s _ hc).1 (hd _ (List.getElem_mem hlt))
   omega
  ·omega
 subst this
 exact h3
end
def curV' (tmps : Array Value) (ss : List (Option Nat)) : List Value := ss.map fun o => match o with
 | some s => tmps.getD s undef
 | none => undef
theorem setAll_cur : ∀ (ss : List (Option Nat)) (tmps : Array Value), setAll tmps ss (curV' tmps ss) = tmps
 | [], tmps => rfl
 | none :: ss, tmps => by
  show setAll tmps ss (curV' tmps ss) = tmps
  exact setAll_cur ss tmps
 | some s :: ss, tmps => by
  show setAll (tmps.setIfInBounds s (tmps.getD s undef)) ss (curV' tmps ss) = tmps
  have e : tmps.setIfInBounds s (tmps.getD s undef) = tmps := by
   apply Array.ext_getElem?
   intro i
   rw [Array.getElem?_setIfInBounds]
   split
   ·rename_i h
    subst h
    split
    ·rename_i h2
     simp [h2]
    ·simp
     omega
   ·rfl
  rw [e]
  exact setAll_cur ss tmps
theorem puts_cur (a : Act) (ss : List (Option Nat)) : a = puts a ss (curV' a.tmps ss) := by
 unfold puts
 rw [setAll_cur]
theorem kSv {l : List Oper} {ks : List (Option (Value -> Prop))} {Ph : (Nat -> Bool) -> (Nat -> Value) -> World -> Prop} {b : Array Bool} {us : List Value} {a a0 : Act} {ss : List (Option Nat)} {w w' : World} {i : Nat} {K : Act -> World -> Prop} (hK : ∀ a' w', CInv l ks Ph a0 ss (b.setIfInBounds i true) a' w' -> K a' w') (h : Veil (CJ l ks Ph (bget b) (uget us) w)) (hu : us.length = ks.length) (hbs : b.size = ks.length) (i' : Nat) (v : Value) (hi : Nat.ble (i' + 1) ks.length = true) {o : Oper} (ho : l[i']? = some o)
  (hbp : ∀ e ∈ o.after, Region.binds .any e = true -> b.getD e.on false = true) {P0 : Value -> Prop} (hk : ks[i']? = some (some P0)) (hv : P0 v) (hph : Ph (upd (bget b) i' true) (upd (uget us) i' v) w') (ha : a = puts a0 ss (us.set i' v) := by simp only [puts, setAll, List.set_cons_zero, List.set_cons_succ, List.setIfInBounds_toArray]) (hii : i = i' := by rfl) : K a w' := by
 subst hii
 exact hK _ _ (chain_step h.out hu hbs i v (Nat.le_of_ble_eq_true hi) ho hbp (val_of hk hv) hph ha)
theorem kSn {l : List Oper} {ks : List (Option (Value -> Prop))} {Ph : (Nat -> Bool) -> (Nat -> Value) -> World -> Prop} {b : Array Bool} {us : List Value} {a a0 : Act} {ss : List (Option Nat)} {w w' : World} {i : Nat} {K : Act -> World -> Prop} (hK : ∀ a' w', CInv l ks Ph a0 ss (b.setIfInBounds i true) a' w' -> K a' w') (h : Veil (CJ l ks Ph (bget b) (uget us) w)) (hu : us.length = ks.length) (hbs : b.size = ks.length) (i' : Nat) (v : Value) (hi : Nat.ble (i' + 1) ks.length = true) {o : Oper} (ho : l[i']? = some o)
  (hbp : ∀ e ∈ o.after, Region.binds .any e = true -> b.getD e.on false = true) (hk : ks[i']? = some none) (hph : Ph (upd (bget b) i' true) (upd (uget us) i' v) w') (ha : a = puts a0 ss (us.set i' v) := by simp only [puts, setAll, List.set_cons_zero, List.set_cons_succ, List.setIfInBounds_toArray]) (hii : i = i' := by rfl) : K a w' := by
 subst hii
 exact hK _ _ (chain_step h.out hu hbs i v (Nat.le_of_ble_eq_true hi) ho hbp (none_of hk) hph ha)
theorem kL {l : List Oper} {ks : List (Option (Value -> Prop))} {cs : List Nat} {St : Nat -> (Nat -> Value) -> World -> Prop} {b : Array Bool} {us : List Value} {a a0 : Act} {ss : List (Option Nat)} {w : World} {i : Nat} {K : Act -> World -> Prop} (hK : ∀ a' w', CInv l ks (LPh cs St) a0 ss (b.setIfInBounds i true) a' w' -> K a' w') (h : Veil (CJ l ks (LPh cs St) (bget b) (uget us) w)) (hu : us.length = ks.length) (hbs : b.size = ks.length) (i' : Nat) (hi : Nat.ble (i' + 1) ks.length = true) {o : Oper} (ho : l[i']? = some o)
  (hbp : ∀ e ∈ o.after, Region.binds .any e = true -> b.getD e.on false = true) {P0 : Value -> Prop} {v : Value} (hk : ks[i']? = some (some P0)) (hv : P0 v) (ha : a = puts a0 ss (us.set i' v) := by simp only [puts, setAll, List.set_cons_zero, List.set_cons_succ, List.setIfInBounds_toArray]) (hc : cs.contains i' = false := by decide) (h0 : i' ≠ 1000000 := by decide) (hii : i = i' := by rfl) : K a w := by
 subst hii
 exact hK _ _ (chain_step h.out hu hbs i v (Nat.le_of_ble_eq_true hi) ho hbp (val_of hk hv) (h.out.ph.step i v hc h0) ha)
theorem SC {P : Program} {Q : Exit -> Act -> World -> Prop} {md : Region.Mode} {ops : Array Oper} {l : List Oper} {ks : List (Option (Value -> Prop))} {Ph : (Nat -> Bool) -> (Nat -> Value) -> World -> Prop} {a0 : Act} {ss : List (Option Nat)} {i : Nat} {o : Oper} {rest : List Oper} (hg : o.guard = none)
  (h : ∀ (b : Array Bool) (a : Act) (w : World) (us : List Value), us.length = ks.length -> a = puts a0 ss us -> CJ l ks Ph (bget b) (uget us) w -> b.size = ops.size -> b.getD i false = false -> (∀ e ∈ o.after, Region.binds md e = true -> b.getD e.on false = true) -> ∀ K : Act -> World -> Prop, (∀ a' w', CInv l ks Ph a0 ss (b.setIfInBounds i true) a' w' -> K a' w') -> o.wp P a w K Q) (hr : Steps P md ops Q (CInv l ks Ph a0 ss) (i + 1) rest) : Steps P md ops Q (CInv l ks Ph a0 ss) i (o :: rest) :=
 Steps.cons hg (fun b a w hbs hb0 hbp hI K hK => by
  obtain ⟨us, hus, ha, hI⟩ := hI
  exact h b a w us hus ha hI hbs hb0 hbp K hK) hr
theorem CJ.vl {l : List Oper} {ks : List (Option (Value -> Prop))} {Ph : (Nat -> Bool) -> (Nat -> Value) -> World -> Prop} {b : Array Bool} {us : Nat -> Value} {w : World} (h : CJ l ks Ph (bget b) us w) (j : Nat) {P : Value -> Prop} (hk : ks[j]? = some (some P)) {o : Oper} (hb : ∀ e ∈ o.after, Region.binds .any e = true -> b.getD e.on false = true) (ha : (o.after.any fun e => Region.binds .any e && e.on == j) = true := by kernel_rfl) : P (us j) := h.val j P hk (gen_after j ha hb)
theorem CJ.ve {l : List Oper} {ks : List (Option (Value -> Prop))} {Ph : (Nat -> Bool) -> (Nat -> Value) -> World -> Prop} {d : Nat -> Bool} {us : Nat -> Value} {w : World} (h : CJ l ks Ph d us w) (j : Nat) {P : Value -> Prop} (hk : ks[j]? = some (some P)) (hj : Nat.ble (j + 1) ks.length = true) (hD : ∀ i, i < ks.length -> d i = true) : P (us j) := h.val j P hk (hD j (Nat.le_of_ble_eq_true hj))
theorem pin {a b c : Act} (ha : a = b) (e : b = c := by simp only [puts, setAll, List.setIfInBounds_toArray, List.set_cons_zero, List.set_cons_succ] <;> rfl) : a = c := ha.trans e
structure SX (ops : Array Oper) (l : List Oper) (ks : List (Option (Value -> Prop))) (Ph : (Nat -> Bool) -> (Nat -> Value) -> World -> Prop) (a0 : Act) (ss : List (Option Nat)) (b : Array Bool) (a : Act) (w : World) (us : List Value) (i : Nat) (o : Oper) (K : Act -> World -> Prop) : Prop where
 hu : us.length = ks.length
 ha : a = puts a0 ss us
 hI : CJ l ks Ph (bget b) (uget us) w
 hs : b.size = ops.size
 h0 : b.getD i false = false
 hp : ∀ e ∈ o.after, Region.binds .any e = true -> b.getD e.on false = true
 hK : ∀ a' w', CInv l ks Ph a0 ss (b.setIfInBounds i true) a' w' -> K a' w'
theorem SV {P : Program} {Q : Exit -> Act -> World -> Prop} {ops : Array Oper} {l : List Oper} {ks : List (Option (Value -> Prop))} {Ph : (Nat -> Bool) -> (Nat -> Value) -> World -> Prop} {a0 : Act} {ss : List (Option Nat)} {i : Nat} {o : Oper} {rest : List Oper} (hg : o.guard = none)
  (h : ∀ (b : Array Bool) (a : Act) (w : World) (us : List Value) (K : Act -> World -> Prop), SX ops l ks Ph a0 ss b a w us i o K -> o.wp P a w K Q) (hr : Steps P .any ops Q (CInv l ks Ph a0 ss) (i + 1) rest) : Steps P .any ops Q (CInv l ks Ph a0 ss) i (o :: rest) :=
 SC hg (fun b a w us hu ha hI hs h0 hp K hK => h b a w us K ⟨hu, ha, hI, hs, h0, hp, hK⟩) hr
theorem SX.q {ops : Array Oper} {l : List Oper} {ks : List (Option (Value -> Prop))} {Ph : (Nat -> Bool) -> (Nat -> Value) -> World -> Prop} {a0 : Act} {ss : List (Option Nat)} {b : Array Bool} {a : Act} {w : World} {us : List Value} {i : Nat} {o : Oper} {K : Act -> World -> Prop} (S : SX ops l ks Ph a0 ss b a w us i o K) (j : Nat) {v : Value} (hk : ks[j]? = some (some (· = v)) := by rfl) (ha : (o.after.any fun e => Region.binds .any e && e.on == j) = true := by kernel_rfl) : uget us j = v := S.hI.vl j hk S.hp ha
theorem SX.kS {ops : Array Oper} {l : List Oper} {ks : List (Option (Value -> Prop))} {Ph : (Nat -> Bool) -> (Nat -> Value) -> World -> Prop} {a0 : Act} {ss : List (Option Nat)} {b : Array Bool} {a : Act} {w : World} {us : List Value} {i : Nat} {o : Oper} {K : Act -> World -> Prop} (S : SX ops l ks Ph a0 ss b a w us i o K) {a' : Act} {w' : World} (i' : Nat) (v : Value) {P0 : Value -> Prop} (hph : Ph (upd (bget b) i' true) (upd (uget us) i' v) w') (hi : Nat.ble (i' + 1) ks.length = true := by rfl) (ho : l[i']? = some o := by rfl) (hk : ks[i']? = some (some P0) := by rfl) (hv : P0 v := by rfl) (ha : a' = puts a0 ss (us.set i' v) := by simp only [puts, setAll, List.set_cons_zero, List.set_cons_succ, List.setIfInBounds_toArray]) (hii : i = i' := by rfl) (hl : ops.size = ks.length := by rfl) : K a' w' :=
 kSv S.hK ⟨S.hI⟩ S.hu (S.hs.trans hl) i' v hi ho S.hp hk hv hph ha hii
theorem SX.kN {ops : Array Oper} {l : List Oper} {ks : List (Option (Value -> Prop))} {Ph : (Nat -> Bool) -> (Nat -> Value) -> World -> Prop} {a0 : Act} {ss : List (Option Nat)} {b : Array Bool} {a : Act} {w : World} {us : List Value} {i : Nat} {o : Oper} {K : Act -> World -> Prop} (S : SX ops l ks Ph a0 ss b a w us i o K) {a' : Act} {w' : World} (i' : Nat) (v : Value) (hph : Ph (upd (bget b) i' true) (upd (uget us) i' v) w') (hi : Nat.ble (i' + 1) ks.length = true := by rfl) (ho : l[i']? = some o := by rfl) (hk : ks[i']? = some none := by rfl) (ha : a' = puts a0 ss (us.set i' v) := by simp only [puts, setAll, List.set_cons_zero, List.set_cons_succ, List.setIfInBounds_toArray]) (hii : i = i' := by rfl) (hl : ops.size = ks.length := by rfl) : K a' w' :=
 kSn S.hK ⟨S.hI⟩ S.hu (S.hs.trans hl) i' v hi ho S.hp hk hph ha hii
theorem SX.kL {ops : Array Oper} {l : List Oper} {ks : List (Option (Value -> Prop))} {cs : List Nat} {St : Nat -> (Nat -> Value) -> World -> Prop} {a0 : Act} {ss : List (Option Nat)} {b : Array Bool} {a : Act} {w : World} {us : List Value} {i : Nat} {o : Oper} {K : Act -> World -> Prop} (S : SX ops l ks (LPh cs St) a0 ss b a w us i o K) {a' : Act} (i' : Nat) {P0 : Value -> Prop} {v : Value} (hi : Nat.ble (i' + 1) ks.length = true := by rfl) (ho : l[i']? = some o := by rfl) (hk : ks[i']? = some (some P0) := by rfl) (hv : P0 v := by rfl) (ha : a' = puts a0 ss (us.set i' v) := by simp only [puts, setAll, List.set_cons_zero, List.set_cons_succ, List.setIfInBounds_toArray]) (hc : cs.contains i' = false := by decide) (h0 : i' ≠ 1000000 := by decide) (hii : i = i' := by rfl) (hl : ops.size = ks.length := by rfl) : K a' w :=
 Go.Proofs.YtahkohfppakaiaaGreatDoor.kL S.hK ⟨S.hI⟩ S.hu (S.hs.trans hl) i' hi ho S.hp hk hv ha hc h0 hii
theorem CJ.vq {l : List Oper} {ks : List (Option (Value -> Prop))} {Ph : (Nat -> Bool) -> (Nat -> Value) -> World -> Prop} {d : Nat -> Bool} {us : Nat -> Value} {w : World} (h : CJ l ks Ph d us w) (j : Nat) (hD : ∀ i, i < ks.length -> d i = true) {v : Value} (hk : ks[j]? = some (some (· = v)) := by rfl) (hj : Nat.ble (j + 1) ks.length = true := by rfl) : us j = v := h.ve j hk hj hD
inductive N6 : List Value -> Prop | mk (a b c d e f : Value) : N6 [a, b, c, d, e, f]
theorem n6 {us : List Value} (h : us.length = 6) : N6 us := by
 match us, h with
 | [a, b, c, d, e, f], _ => exact ⟨a, b, c, d, e, f⟩
inductive N7 : List Value -> Prop | mk (a b c d e f g : Value) : N7 [a, b, c, d, e, f, g]
theorem n7 {us : List Value} (h : us.length = 7) : N7 us := by
 match us, h with
 | [a, b, c, d, e, f, g], _ => exact ⟨a, b, c, d, e, f, g⟩
inductive N8 : List Value -> Prop | mk (a b c d e f g h : Value) : N8 [a, b, c, d, e, f, g, h]
theorem n8 {us : List Value} (h : us.length = 8) : N8 us := by
 match us, h with
 | [a, b, c, d, e, f, g, h], _ => exact ⟨a, b, c, d, e, f, g, h⟩
inductive N9 : List Value -> Prop | mk (a b c d e f g h i : Value) : N9 [a, b, c, d, e, f, g, h, i]
theorem n9 {us : List Value} (h : us.length = 9) : N9 us := by
 match us, h with
 | [a, b, c, d, e, f, g, h, i], _ => exact ⟨a, b, c, d, e, f, g, h, i⟩
inductive N10 : List Value -> Prop | mk (a b c d e f g h i j : Value) : N10 [a, b, c, d, e, f, g, h, i, j]
theorem n10 {us : List Value} (h : us.length = 10) : N10 us := by
 match us, h with
 | [a, b, c, d, e, f, g, h, i, j], _ => exact ⟨a, b, c, d, e, f, g, h, i, j⟩
inductive N11 : List Value -> Prop | mk (a b c d e f g h i j k : Value) : N11 [a, b, c, d, e, f, g, h, i, j, k]
theorem n11 {us : List Value} (h : us.length = 11) : N11 us := by
 match us, h with
 | [a, b, c, d, e, f, g, h, i, j, k], _ => exact ⟨a, b, c, d, e, f, g, h, i, j, k⟩
inductive N12 : List Value -> Prop | mk (a b c d e f g h i j k l : Value) : N12 [a, b, c, d, e, f, g, h, i, j, k, l]
theorem n12 {us : List Value} (h : us.length = 12) : N12 us := by
 match us, h with
 | [a, b, c, d, e, f, g, h, i, j, k, l], _ => exact ⟨a, b, c, d, e, f, g, h, i, j, k, l⟩
inductive N13 : List Value -> Prop | mk (a b c d e f g h i j k l m : Value) : N13 [a, b, c, d, e, f, g, h, i, j, k, l, m]
theorem n13 {us : List Value} (h : us.length = 13) : N13 us := by
 match us, h with
 | [a, b, c, d, e, f, g, h, i, j, k, l, m], _ => exact ⟨a, b, c, d, e, f, g, h, i, j, k, l, m⟩
inductive N14 : List Value -> Prop | mk (a b c d e f g h i j k l m n : Value) : N14 [a, b, c, d, e, f, g, h, i, j, k, l, m, n]
theorem n14 {us : List Value} (h : us.length = 14) : N14 us := by
 match us, h with
 | [a, b, c, d, e, f, g, h, i, j, k, l, m, n], _ => exact ⟨a, b, c, d, e, f, g, h, i, j, k, l, m, n⟩
inductive N15 : List Value -> Prop | mk (a b c d e f g h i j k l m n o : Value) : N15 [a, b, c, d, e, f, g, h, i, j, k, l, m, n, o]
theorem n15 {us : List Value} (h : us.length = 15) : N15 us := by
 match us, h with
 | [a, b, c, d, e, f, g, h, i, j, k, l, m, n, o], _ => exact ⟨a, b, c, d, e, f, g, h, i, j, k, l, m, n, o⟩
inductive N16 : List Value -> Prop | mk (a b c d e f g h i j k l m n o p : Value) : N16 [a, b, c, d, e, f, g, h, i, j, k, l, m, n, o, p]
theorem n16 {us : List Value} (h : us.length = 16) : N16 us := by
 match us, h with
 | [a, b, c, d, e, f, g, h, i, j, k, l, m, n, o, p], _ => exact ⟨a, b, c, d, e, f, g, h, i, j, k, l, m, n, o, p⟩
inductive N17 : List Value -> Prop | mk (a b c d e f g h i j k l m n o p q : Value) : N17 [a, b, c, d, e, f, g, h, i, j, k, l, m, n, o, p, q]
theorem n17 {us : List Value} (h : us.length = 17) : N17 us := by
 match us, h with
 | [a, b, c, d, e, f, g, h, i, j, k, l, m, n, o, p, q], _ => exact ⟨a, b, c, d, e, f, g, h, i, j, k, l, m, n, o, p, q⟩
inductive N20 : List Value -> Prop | mk (a b c d e f g h i j k l m n o p q r s t : Value) : N20 [a, b, c, d, e, f, g, h, i, j, k, l, m, n, o, p, q, r, s, t]
theorem n20 {us : List Value} (h : us.length = 20) : N20 us := by
 match us, h with
 | [a, b, c, d, e, f, g, h, i, j, k, l, m, n, o, p, q, r, s, t], _ => exact ⟨a, b, c, d, e, f, g, h, i, j, k, l, m, n, o, p, q, r, s, t⟩
inductive N21 : List Value -> Prop | mk (a b c d e f g h i j k l m n o p q r s t u : Value) : N21 [a, b, c, d, e, f, g, h, i, j, k, l, m, n, o, p, q, r, s, t, u]
theorem n21 {us : List Value} (h : us.length = 21) : N21 us := by
 match us, h with
 | [a, b, c, d, e, f, g, h, i, j, k, l, m, n, o, p, q, r, s, t, u], _ => exact ⟨a, b, c, d, e, f, g, h, i, j, k, l, m, n, o, p, q, r, s, t, u⟩
inductive N22 : List Value -> Prop | mk (a b c d e f g h i j k l m n o p q r s t u v : Value) : N22 [a, b, c, d, e, f, g, h, i, j, k, l, m, n, o, p, q, r, s, t, u, v]
theorem n22 {us : List Value} (h : us.length = 22) : N22 us := by
 match us, h with
 | [a, b, c, d, e, f, g, h, i, j, k, l, m, n, o, p, q, r, s, t, u, v], _ => exact ⟨a, b, c, d, e, f, g, h, i, j, k, l, m, n, o, p, q, r, s, t, u, v⟩
abbrev qq (v : Value) : Option (Value -> Prop) := some (· = v)
abbrev qp (b i : Nat) : Option (Value -> Prop) := some (· = .pointer (some ⟨b, i, none⟩))
abbrev qi (i : Int) : Option (Value -> Prop) := some (· = .int .i64 i)
abbrev qv (v : Vt) : Option (Value -> Prop) := some (· = valV v)
theorem SY {P : Program} {Q : Exit -> Act -> World -> Prop} {ops : Array Oper} {l : List Oper} {ks : List (Option (Value -> Prop))} {Ph : (Nat -> Bool) -> (Nat -> Value) -> World -> Prop} {a0 : Act} {ss : List (Option Nat)} {i : Nat} {o : Oper} {rest : List Oper}
  (h : ∀ {b : Array Bool} {a : Act} {us : List Value} {K : Act -> World -> Prop} (w : World), SX ops l ks Ph a0 ss b a w us i o K -> o.wp P a w K Q) (hr : Steps P .any ops Q (CInv l ks Ph a0 ss) (i + 1) rest) (hg : o.guard = none := by rfl) : Steps P .any ops Q (CInv l ks Ph a0 ss) i (o :: rest) :=
 SV hg (fun _ _ w _ _ S => h w S) hr
structure GX (ops : Array Oper) (ks : List Kd) (W1 : World) (a0 : Act) (ss : List (Option Nat)) (b : Array Bool) (a : Act) (w : World) (us : List Value) (i : Nat) (o : Oper) (K : Act -> World -> Prop) : Prop where
 hu : us.length = ks.length
 ha : a = puts a0 ss us
 hI : JI ks W1 (bget b) (uget us) w
 hs : b.size = ops.size
 h0 : b.getD i false = false
 hp : ∀ e ∈ o.after, Region.binds .any e = true -> b.getD e.on false = true
 hK : ∀ a' w', GInv ks W1 a0 ss (b.setIfInBounds i true) a' w' -> K a' w'
theorem GY {P : Program} {Q : Exit -> Act -> World -> Prop} {ops : Array Oper} {ks : List Kd} {W1 : World} {a0 : Act} {ss : List (Option Nat)} {i : Nat} {o : Oper} {rest : List Oper}
  (h : ∀ {b : Array Bool} {a : Act} {us : List Value} {K : Act -> World -> Prop} (w : World), GX ops ks W1 a0 ss b a w us i o K -> o.wp P a w K Q) (hr : Steps P .any ops Q (GInv ks W1 a0 ss) (i + 1) rest) (hg : o.guard = none := by rfl) : Steps P .any ops Q (GInv ks W1 a0 ss) i (o :: rest) :=
 Steps.cons hg (fun b a w hbs hb0 hbp hI K hK => by
  obtain ⟨us, hus, ha, hI⟩ := hI
  exact h w ⟨hus, ha, hI, hbs, hb0, hbp, hK⟩) hr
theorem GX.q {ops : Array Oper} {ks : List Kd} {W1 : World} {a0 : Act} {ss : List (Option Nat)} {b : Array Bool} {a : Act} {w : World} {us : List Value} {i : Nat} {o : Oper} {K : Act -> World -> Prop} (S : GX ops ks W1 a0 ss b a w us i o K) (j : Nat) {v : Value} (hk : ks[j]? = some (.val (· = v)) := by rfl) (ha : (o.after.any fun e => Region.binds .any e && e.on == j) = true := by kernel_rfl) : uget us j = v := S.hI.val j _ hk (gen_after j ha S.hp)
theorem GX.kw {ops : Array Oper} {ks : List Kd} {W1 : World} {a0 : Act} {ss : List (Option Nat)} {b : Array Bool} {a : Act} {w : World} {us : List Value} {i : Nat} {o : Oper} {K : Act -> World -> Prop} (S : GX ops ks W1 a0 ss b a w us i o K) {a' : Act} {w' : World} (i' : Nat) (hb : Below w.heap.size w w') {P : Value -> Prop} {v : Value} (hi : Nat.ble (i' + 1) ks.length = true := by rfl) (hf : Fit ks := by exact fit_of rfl) (hk : ks[i']? = some (.val P) := by rfl) (hP : P v := by rfl) (ha : a' = puts a0 ss (us.set i' v) := by simp only [puts, setAll, List.setIfInBounds_toArray, List.set_cons_zero, List.set_cons_succ]) (hii : i = i' := by rfl) (hl : ops.size = ks.length := by rfl) : K a' w' := by
 subst hii
 exact S.hK _ _ (gen_val S.hI S.hu (S.hs.trans hl) i P v (Nat.le_of_ble_eq_true hi) hf hk S.h0 hP hb ha)
theorem GX.k {ops : Array Oper} {ks : List Kd} {W1 : World} {a0 : Act} {ss : List (Option Nat)} {b : Array Bool} {a : Act} {w : World} {us : List Value} {i : Nat} {o : Oper} {K : Act -> World -> Prop} (S : GX ops ks W1 a0 ss b a w us i o K) {a' : Act} (i' : Nat) {P : Value -> Prop} {v : Value} (hi : Nat.ble (i' + 1) ks.length = true := by rfl) (hf : Fit ks := by exact fit_of rfl) (hk : ks[i']? = some (.val P) := by rfl) (hP : P v := by rfl) (ha : a' = puts a0 ss (us.set i' v) := by simp only [puts, setAll, List.setIfInBounds_toArray, List.set_cons_zero, List.set_cons_succ]) (hii : i = i' := by rfl) (hl : ops.size = ks.length := by rfl) : K a' w :=
 S.kw i' (Below.refl _ _) hi hf hk hP ha hii hl
theorem JI.q {ks : List Kd} {W1 w : World} {d : Nat -> Bool} {us : Nat -> Value} (h : JI ks W1 d us w) (j : Nat) (hD : ∀ i, i < ks.length -> d i = true) {v : Value} (hk : ks[j]? = some (.val (· = v)) := by rfl) (hj : Nat.ble (j + 1) ks.length = true := by rfl) : us j = v := h.val j _ hk (hD j (Nat.le_of_ble_eq_true hj))
theorem len12 {α : Type} {us : List α} (h : us.length = 12) : ∃ a0 a1 a2 a3 a4 a5 a6 a7 a8 a9 a10 a11, us = [a0, a1, a2, a3, a4, a5, a6, a7, a8, a9, a10, a11] := by
 match us, h with
 | [a0, a1, a2, a3, a4, a5, a6, a7, a8, a9, a10, a11], _ => exact ⟨a0, a1, a2, a3, a4, a5, a6, a7, a8, a9, a10, a11, rfl⟩
theorem ents_uniq {T : Tab} (hI : Inv T) : ∀ x ∈ ents T.sl, ∀ y ∈ ents T.sl, x.1 = y.1 -> x = y := by
 intro x hx y hy he
 obtain ⟨s, hs, rfl⟩ := List.mem_map.1 hx
 obtain ⟨r, hr, rfl⟩ := List.mem_map.1 hy
 obtain ⟨hs1, hs2⟩ := List.mem_filter.1 hs
 obtain ⟨hr1, hr2⟩ := List.mem_filter.1 hr
 obtain ⟨i, hi⟩ := List.mem_iff_getElem?.1 hs1
 obtain ⟨j, hj⟩ := List.mem_iff_getElem?.1 hr1
 have := hI.uniq i j s r hi hj hs2 hr2 he
 subst this
 rw [hi] at hj
 injection hj with hj
 rw [hj]
theorem PrAt.uniq {B : Nat} {w : World} {pv : Value} {F : Nat -> Prop} {O : List En} (h : PrAt B w pv F O) : ∀ x ∈ O, ∀ y ∈ O, x.1 = y.1 -> x = y := by
 rcases h with ⟨_, rfl, _⟩ | ⟨t, _, T, vs, vb, vc, hT, hG, ho, hF⟩
 ·intro x hx; cases hx
 ·have h1 : ents T.sl = O := congrArg Prod.fst ho
  rw [<- h1]
  exact ents_uniq hG.inv
def lookO (O : List En) (k : Vt) : Vt × Int × Bool := match O.find? (fun x => decide (x.1 = k)) with
 | some x => (x.2.1, x.2.2, true)
 | none => ((0, 0, ⟨#[]⟩), 0, false)
theorem got_look {O : List En} {k : Vt} {e : Ending} (hu : ∀ x ∈ O, ∀ y ∈ O, x.1 = y.1 -> x = y) (h : GotP O k e) : e = .returned (.tuple #[valV (lookO O (keyT k)).1, .int .i64 (lookO O (keyT k)).2.1, .bool (lookO O (keyT k)).2.2]) := by
 unfold lookO
 cases hf : O.find? (fun x => decide (x.1 = keyT k)) with
 | none =>
  rcases h with ⟨x, hx, hk, -⟩ | ⟨_, h⟩
  ·have := List.find?_eq_none.1 hf x hx
   simp [hk] at this
  ·exact h
 | some y =>
  have hy := List.mem_of_find?_eq_some hf
  have hy2 : y.1 = keyT k := by simpa using List.find?_some hf
  rcases h with ⟨x, hx, hk, h⟩ | ⟨h, _⟩
  ·have := hu x hx y hy (hk.trans hy2.symm)
   subst this
   exact h
  ·exact absurd ⟨y, hy, hy2⟩ h
def OwSt (WD : World) (rb : Nat) (v : Vt) : Nat -> (Nat -> Value) -> World -> Prop
 | 0 => fun _ w => w = WD
 | 1 => fun _ w => Below WD.heap.size WD w
 | _ => fun _ w => ∃ w2, Below WD.heap.size WD w2 /\ w = ((w2.setCell ⟨rb, 0, none⟩ (.int .i64 v.1)).setCell ⟨rb, 1, none⟩ (.int .i64 v.2.1)).setCell ⟨rb, 2, none⟩ (.string v.2.2)
theorem own_plain {w : World} {B o : Nat} {cl proto : Int} {cs : Bool} {pv ev fn : Value} {kd : KD} {F : Nat -> Prop} {O : List En} (hb : Box w o 63 (objF cl proto cs pv ev fn kd))  (hp : PrAt B w pv F O) (k : Vt) (hc : NE cl k) (hk : k.2.2.size <= 1000) :
  Calls Tryz.prog 71 #[.pointer (some ⟨o, 0, none⟩), valV k] w fun e w' => e = .returned (.tuple #[valV (lookO O (keyT k)).1, .int .i64 (lookO O (keyT k)).2.1, .bool (lookO O (keyT k)).2.2]) /\ Below w.heap.size w w' := by
 obtain ⟨⟨v, f, ok⟩, hl⟩ : ∃ r, lookO O (keyT k) = r := ⟨_, rfl⟩
 rw [hl]
 have hlt := hb.lt
 have HG0 : Veil (∀ W, Below w.heap.size w W -> Calls Tryz.prog 110 #[pv, valV k] W fun e w' => e = .returned (.tuple #[valV v, .int .i64 f, .bool ok]) /\ Below W.heap.size W w') := ⟨fun W hbw => (pget_any (hp.on hbw) k hk).mono fun e w' h => ⟨by have := got_look hp.uniq h.1; rw [hl] at this; exact this, h.2⟩⟩
 have HIL : Veil (∀ W, Below w.heap.size w W -> Calls Tryz.prog 107 #[.pointer (some ⟨o, 0, none⟩), valV k] W fun e w' => e = .returned (.bool false) /\ Below W.heap.size W w') := ⟨fun W hbw => hc.isLen (hb.below hbw)⟩
 have HEL : Veil (∀ W, Below w.heap.size w W -> Calls Tryz.prog 109 #[.pointer (some ⟨o, 0, none⟩), valV k] W fun e w' => e = .returned (.int .i64 (-1)) /\ Below W.heap.size W w') := ⟨fun W hbw => hc.elem (hb.below hbw)⟩
 obtain ⟨kb, hkb⟩ : ∃ kb, w.heap.size = kb := ⟨_, rfl⟩
 obtain ⟨rb, hrb⟩ : ∃ rb, kb + 1 = rb := ⟨_, rfl⟩
 have b1 := (Box.new w 28 #[.int .i64 k.1, .int .i64 k.2.1, .string k.2.2]).more (.cells #[.int .i64 0, .int .i64 0, .string ⟨#[]⟩] 28)
 have b2 := Box.new (w.alloc (.cells #[.int .i64 k.1, .int .i64 k.2.1, .string k.2.2] 28)) 28 #[.int .i64 0, .int .i64 0, .string ⟨#[]⟩]
 have bb : Below w.heap.size w ((w.alloc (.cells #[.int .i64 k.1, .int .i64 k.2.1, .string k.2.2] 28)).alloc (.cells #[.int .i64 0, .int .i64 0, .string ⟨#[]⟩] 28)) := ((Below.refl _ _).alloc (Nat.le_refl _) _).alloc (by simp) _
 rw [World.size_alloc] at b2
 obtain ⟨W0, hW0⟩ : ∃ W0, ((w.alloc (.cells #[.int .i64 k.1, .int .i64 k.2.1, .string k.2.2] 28)).alloc (.cells #[.int .i64 0, .int .i64 0, .string ⟨#[]⟩] 28)) = W0 := ⟨_, rfl⟩
 rw [hW0] at b1 b2 bb
 have HW0 := Veil.mk (And.intro hW0 (And.intro hkb hrb))
 have HBO := Veil.mk (And.intro hb bb)
 rw [hkb] at b1 b2 ⊢
 rw [hrb] at b2
 have HB12 := Veil.mk (And.intro b1 b2)
 have x0 : W0.cell? ⟨kb, 0, none⟩ = some (.int .i64 k.1) := b1.at_ 0
 have x1 : W0.cell? ⟨kb, 1, none⟩ = some (.int .i64 k.2.1) := b1.at_ 1
 have x2 : W0.cell? ⟨kb, 2, none⟩ = some (.string k.2.2) := b1.at_ 2
 clear hl hb hp b1 b2 bb hW0 hkb hrb hlt
 go_enter Tryz.func71, Tryz.ntmps71
 go_upto_region 1 with (fail)
 rw [HW0.out.1, HW0.out.2.1, HW0.out.2.2]
 go_upto_region 5 with (go_at_call 107; ((with_reducible refine (HIL.out _ HBO.out.2).mono ?_); rintro e w1 ⟨rfl, hb1⟩))
 have hbw1 : Below w.heap.size w w1 := blw2 HBO.out.2 hb1
 have HB1 := Veil.mk hbw1
 have q1 := HB12.out.1.on hb1 HB12.out.1.lt
 have q2 := HB12.out.2.on hb1 HB12.out.2.lt
 have HB2 := Veil.mk (And.intro q1 q2)
 clear x0 x1 x2
 have x0 : w1.cell? ⟨kb, 0, none⟩ = some (.int .i64 k.1) := q1.at_ 0
 have x1 : w1.cell? ⟨kb, 1, none⟩ = some (.int .i64 k.2.1) := q1.at_ 1
 have x2 : w1.cell? ⟨kb, 2, none⟩ = some (.string k.2.2) := q1.at_ 2
 clear hb1 hbw1 q1 q2
 go_upto_region 7 with (go_at_call 109; ((with_reducible refine (HEL.out _ HB1.out).mono ?_); rintro e w3 ⟨rfl, hb3⟩))
 have HB3 := Veil.mk (blw2 HB1.out hb3)
 have HKB0 := Veil.mk (And.intro (HB2.out.1.on hb3 HB2.out.1.lt) (HB2.out.2.on hb3 HB2.out.2.lt))
 clear x0 x1 x2 hb3 HB1 HB2 HB12
 obtain ⟨WD, hWD⟩ : ∃ WD, w3.drew = WD := ⟨_, rfl⟩
 have HBD : Veil (Below w.heap.size w WD) := ⟨by rw [<- hWD]; exact HB3.out.drew⟩
 have HOB : Veil (Box WD o 63 (objF cl proto cs pv ev fn kd)) := ⟨HBO.out.1.below HBD.out⟩
 have HKB : Veil (Box WD kb 28 #[.int .i64 k.1, .int .i64 k.2.1, .string k.2.2]) := ⟨by rw [<- hWD]; exact HKB0.out.1.drew⟩
 have HRB : Veil (Box WD rb 28 #[.int .i64 0, .int .i64 0, .string ⟨#[]⟩]) := ⟨by rw [<- hWD]; exact HKB0.out.2.drew⟩
 have HG := Veil.mk (HG0.out WD HBD.out)
 have HWD := Veil.mk hWD
 have HRL : Veil (w.heap.size <= rb) := ⟨by have := HW0.out.2.1; have := HW0.out.2.2; omega⟩
 clear hWD HG0 HB3 HKB0 HBO HIL HEL
 refine wp_region_chain [qp o 0, qp o 0, qp o 3, qq pv, qv k, qq (.tuple #[valV v, .int .i64 f, .bool ok]), qv v, qi f, qq (.bool ok), none, qi f, qq (.bool ok)] (LPh [5, 9] (OwSt WD rb v)) [some 27, some 28, some 29, some 30, some 31, some 32, some 33, some 34, some 35, none, some 5, some 6] (curV' _ [some 27, some 28, some 29, some 30, some 31, some 32, some 33, some 34, some 35, none, some 5, some 6]) (by kernel_rfl) rfl rfl (puts_cur _ _) (LPh.start (show w3.drew = WD from HWD.out)) ?_ (by kernel_rfl) ?_
 ·refine SY (fun _ S => ?_) ?_
  ·obtain ⟨⟩ := n12 S.hu
   rw [pin S.ha]
   go_simp
   exact S.kL 0
  refine SY (fun _ S => ?_) ?_
  ·obtain ⟨⟩ := n12 S.hu
   obtain rfl := S.q 0
   rw [pin S.ha]
   go_simp
   exact S.kL 1
  refine SY (fun _ S => ?_) ?_
  ·obtain ⟨⟩ := n12 S.hu
   obtain rfl := S.q 1
   rw [pin S.ha]
   go_simp
   exact S.kL 2
  refine SY (fun w' S => ?_) ?_
  ·obtain ⟨⟩ := n12 S.hu
   obtain rfl := S.q 2
   have h5 := S.hI.before 5 3 rfl (by kernel_rfl) S.h0
   have hst := S.hI.ph.at_ 0 5 rfl h5 (.inl rfl)
   clear h5
   have c0 : w'.cell? ⟨o, 3, none⟩ = some pv := by rw [show w' = WD from hst]; exact HOB.out.at_ 3
   rw [pin S.ha]
   go_simp
   exact S.kL 3
  refine SY (fun w' S => ?_) ?_
  ·obtain ⟨⟩ := n12 S.hu
   have h5 := S.hI.before 5 4 rfl (by kernel_rfl) S.h0
   have hst := S.hI.ph.at_ 0 5 rfl h5 (.inl rfl)
   clear h5
   have HKW : Box w' kb 28 #[.int .i64 k.1, .int .i64 k.2.1, .string k.2.2] := by rw [show w' = WD from hst]; exact HKB.out
   have c0 : w'.cell? ⟨kb, 0, none⟩ = some (.int .i64 k.1) := HKW.at_ 0
   have c1 : w'.cell? ⟨kb, 1, none⟩ = some (.int .i64 k.2.1) := HKW.at_ 1
   have c2 : w'.cell? ⟨kb, 2, none⟩ = some (.string k.2.2) := HKW.at_ 2
   clear HKW
   rw [pin S.ha]
   go_simp
   exact S.kL 4
  refine SY (fun w' S => ?_) ?_
  ·obtain ⟨_, _, _, u3⟩ := n12 S.hu
   obtain rfl : u3 = _ := S.q 3
   obtain rfl := S.q 4
   have hst := S.hI.ph.at_ 0 5 rfl S.h0 (.inl rfl)
   have HST := Veil.mk (show w' = WD from hst)
   have HG2 := HG.out
   rw [<- show w' = WD from hst] at HG2
   have HG3 := Veil.mk HG2
   clear HG2
   rw [pin S.ha]
   go_simp
   go_at_call 110
   refine HG3.out.mono ?_
   rintro e9 w9 ⟨rfl, hb9⟩
   go_simp
   exact S.kS 5 (.tuple #[valV v, .int .i64 f, .bool ok]) (S.hI.ph.next 0 5 _ rfl S.h0 (.inl rfl) (by decide) (by rw [<- HST.out]; exact hb9))
  refine SY (fun _ S => ?_) ?_
  ·obtain ⟨⟩ := n12 S.hu
   obtain rfl := S.q 5
   rw [pin S.ha]
   go_simp
   exact S.kL 6
  refine SY (fun _ S => ?_) ?_
  ·obtain ⟨⟩ := n12 S.hu
   obtain rfl := S.q 5
   rw [pin S.ha]
   go_simp
   exact S.kL 7
  refine SY (fun _ S => ?_) ?_
  ·obtain ⟨⟩ := n12 S.hu
   obtain rfl := S.q 5
   rw [pin S.ha]
   go_simp
   exact S.kL 8
  refine SY (fun w' S => ?_) ?_
  ·obtain ⟨⟩ := n12 S.hu
   obtain rfl := S.q 6
   have hst := S.hI.ph.at_ 1 9 rfl S.h0 (.inr ⟨5, rfl, gen_after 5 (by kernel_rfl) S.hp⟩)
   replace hst : Below WD.heap.size WD w' := hst
   have hrb := HRB.out.on hst HRB.out.lt
   have c0 : w'.cell? ⟨rb, 0, none⟩ = some (.int .i64 0) := hrb.at_ 0
   have c1 : w'.cell? ⟨rb, 1, none⟩ = some (.int .i64 0) := hrb.at_ 1
   have c2 : w'.cell? ⟨rb, 2, none⟩ = some (.string ⟨#[]⟩) := hrb.at_ 2
   have f0 := hrb.free 0
   have f1 := hrb.free 1
   have f2 := hrb.free 2
   have HST := Veil.mk hst
   clear hst hrb
   rw [pin S.ha]
   go_simp
   exact S.kN 9 undef (S.hI.ph.next 1 9 _ rfl S.h0 (.inr ⟨5, rfl, gen_after 5 (by kernel_rfl) S.hp⟩) (by decide) ⟨w', HST.out, rfl⟩)
  refine SY (fun _ S => ?_) ?_
  ·obtain ⟨⟩ := n12 S.hu
   obtain rfl := S.q 7
   rw [pin S.ha]
   go_simp
   exact S.kL 10
  refine SY (fun _ S => ?_) ?_
  ·obtain ⟨⟩ := n12 S.hu
   obtain rfl := S.q 8
   rw [pin S.ha]
   go_simp
   exact S.kL 11
  exact Steps.nil
 ·intro us w9 hus dd hD2 hJ
  obtain ⟨_, _, _, _, _, _, _, _, _, _, p10, p11⟩ := n12 hus
  obtain ⟨w2, q1, rfl⟩ := hJ.ph.all (fun c hc => hD2 c (by
   have : c = 5 \/ c = 9 := by simpa using hc
   show c < 12
   omega))
  have e10 : p10 = .int .i64 f := hJ.val 10 _ rfl (hD2 10 (by show 10 < 12; decide))
  have e11 : p11 = .bool ok := hJ.val 11 _ rfl (hD2 11 (by show 11 < 12; decide))
  subst e10 e11
  have hr := HRB.out.on q1 HRB.out.lt
  have hr3 := ((hr.put 0 (.int .i64 v.1)).put 1 (.int .i64 v.2.1)).put 2 (.string v.2.2)
  have hb9 : Below w.heap.size w (((w2.setCell ⟨rb, 0, none⟩ (.int .i64 v.1)).setCell ⟨rb, 1, none⟩ (.int .i64 v.2.1)).setCell ⟨rb, 2, none⟩ (.string v.2.2)) := (((HBD.out.trans (q1.mono HBD.out.size)).setCell (p := ⟨rb, 0, none⟩) HRL.out _).setCell (p := ⟨rb, 1, none⟩) HRL.out _).setCell (p := ⟨rb, 2, none⟩) HRL.out _
  generalize ((w2.setCell ⟨rb, 0, none⟩ (.int .i64 v.1)).setCell ⟨rb, 1, none⟩ (.int .i64 v.2.1)).setCell ⟨rb, 2, none⟩ (.string v.2.2) = w9 at hr3 hb9 ⊢
  have y0 : w9.cell? ⟨rb, 0, none⟩ = some (.int .i64 v.1) := hr3.at_ 0
  have y1 : w9.cell? ⟨rb, 1, none⟩ = some (.int .i64 v.2.1) := hr3.at_ 1
  have y2 : w9.cell? ⟨rb, 2, none⟩ = some (.string v.2.2) := hr3.at_ 2
  have HZ := Veil.mk hb9
  clear hJ hD2 q1 hr hr3 hb9
  simp only [puts, setAll, List.set_cons_zero, List.set_cons_succ, List.setIfInBounds_toArray]
  go_wp2
  have hfin : Below kb w w9 := by rw [<- HW0.out.2.1]; exact HZ.out
  exact bodyPost_ret (v := .tuple #[valV v, .int .i64 f, .bool ok]) (by simp [results, Tryz.results71, go_sem, y0, y1, y2]) rfl ⟨rfl, hfin⟩
theorem len8 {α : Type} {us : List α} (h : us.length = 8) : ∃ a0 a1 a2 a3 a4 a5 a6 a7, us = [a0, a1, a2, a3, a4, a5, a6, a7] := by
 match us, h with
 | [a0, a1, a2, a3, a4, a5, a6, a7], _ => exact ⟨a0, a1, a2, a3, a4, a5, a6, a7, rfl⟩
theorem touch_new {S F1 : Nat -> Prop} {w W w9 : World} (h : Touch S w W) (h2 : Touch F1 W w9) (hf : ∀ b, F1 b -> S b \/ w.heap.size <= b) : Touch S w w9 :=
 ⟨h2.os.trans h.os, h2.tape.trans h.tape, h2.output.trans h.output, Nat.le_trans h.size h2.size, fun b hb hn => (h2.block b (by have := h.size; omega) (fun hF => (hf b hF).elim hn (fun h => by omega))).trans (h.block b hb hn)⟩
def DfSt (B t : Nat) (F1 : Nat -> Prop) (O : Ob) (WD : World) : Nat -> (Nat -> Value) -> World -> Prop
 | 0 => fun _ w => w = WD
 | _ => fun _ w => ∃ F9, Tf B t F9 O w /\ Fs F1 F9 WD w
theorem define_nil {w : World} {B o : Nat} {cl proto : Int} {ev fn : Value} {kd : KD}  (hb : Box w o 63 (objF cl proto false (.pointer none) ev fn kd))  (hB : B <= w.heap.size) (fl : Int) (k v : Vt) (hc : NE cl k) (hk : k.2.2.size <= 1000) :
  Calls Tryz.prog 72 #[.pointer (some ⟨o, 0, none⟩), valV k, valV v, .int .i64 fl] w fun e w' => e = .returned (.bool true) /\ ∃ pv' F', Box w' o 63 (objF cl proto false pv' ev fn kd) /\ PrAt B w' pv' F' (putO ([], []) (keyT k) v fl).1 /\ Touch (fun b => b = o \/ False) w w' /\ ∀ b, F' b -> False \/ w.heap.size <= b := by
 have hlt := hb.lt
 obtain ⟨O, hO⟩ : ∃ O : List En, O = [] := ⟨_, rfl⟩
 obtain ⟨F, hF⟩ : ∃ F : Nat -> Prop, F = fun _ => False := ⟨_, rfl⟩
 have hp : PrAt B w (.pointer none) F O := .inl ⟨rfl, hO, hF⟩
 have hn : O.length < 40000 := by rw [hO]; decide
 have HLK : ∃ v0, lookO O (keyT k) = (v0, 0, false) := ⟨_, by rw [hO]; rfl⟩
 have HON0 := Veil.mk hO
 have HBL := Veil.mk hB
 suffices hsf : Calls Tryz.prog 72 #[.pointer (some ⟨o, 0, none⟩), valV k, valV v, .int .i64 fl] w fun e w' => e = .returned (.bool true) /\ ∃ pv' F', Box w' o 63 (objF cl proto false pv' ev fn kd) /\ PrAt B w' pv' F' (putO (O, []) (keyT k) v fl).1 /\ Touch (fun b => b = o \/ F b) w w' /\ ∀ b, F' b -> F b \/ w.heap.size <= b by
  rw [hO, hF] at hsf
  exact hsf
 have HFF : Veil (∀ b, F b -> False) := ⟨fun b hb => by rw [hF] at hb; exact hb⟩
 have HOW : Veil (∀ W, Below w.heap.size w W -> Calls Tryz.prog 71 #[.pointer (some ⟨o, 0, none⟩), valV k] W fun e w' => e = .returned (.tuple #[valV (lookO O (keyT k)).1, .int .i64 (lookO O (keyT k)).2.1, .bool (lookO O (keyT k)).2.2]) /\ Below W.heap.size W w') := ⟨fun W hbw => own_plain (hb.below hbw) (hp.on hbw) k hc hk⟩
 have HIL : Veil (∀ W, Below w.heap.size w W -> Calls Tryz.prog 107 #[.pointer (some ⟨o, 0, none⟩), valV k] W fun e w' => e = .returned (.bool false) /\ Below W.heap.size W w') := ⟨fun W hbw => hc.isLen (hb.below hbw)⟩
 have HEL : Veil (∀ W, Below w.heap.size w W -> Calls Tryz.prog 109 #[.pointer (some ⟨o, 0, none⟩), valV k] W fun e w' => e = .returned (.int .i64 (-1)) /\ Below W.heap.size W w') := ⟨fun W hbw => hc.elem (hb.below hbw)⟩
 obtain ⟨kb, hkb⟩ : ∃ kb, w.heap.size = kb := ⟨_, rfl⟩
 obtain ⟨vb, hvb⟩ : ∃ vb, kb + 1 = vb := ⟨_, rfl⟩
 have b1 := (Box.new w 28 #[.int .i64 k.1, .int .i64 k.2.1, .string k.2.2]).more (.cells #[.int .i64 v.1, .int .i64 v.2.1, .string v.2.2] 28)
 have b2 := Box.new (w.alloc (.cells #[.int .i64 k.1, .int .i64 k.2.1, .string k.2.2] 28)) 28 #[.int .i64 v.1, .int .i64 v.2.1, .string v.2.2]
 have bb : Below w.heap.size w ((w.alloc (.cells #[.int .i64 k.1, .int .i64 k.2.1, .string k.2.2] 28)).alloc (.cells #[.int .i64 v.1, .int .i64 v.2.1, .string v.2.2] 28)) := ((Below.refl _ _).alloc (Nat.le_refl _) _).alloc (by simp) _
 rw [World.size_alloc] at b2
 obtain ⟨W0, hW0⟩ : ∃ W0, ((w.alloc (.cells #[.int .i64 k.1, .int .i64 k.2.1, .string k.2.2] 28)).alloc (.cells #[.int .i64 v.1, .int .i64 v.2.1, .string v.2.2] 28)) = W0 := ⟨_, rfl⟩
 rw [hW0] at b1 b2 bb
 have HW0 := Veil.mk (And.intro hW0 (And.intro hkb hvb))
 have HBO := Veil.mk (And.intro hb bb)
 have HON := Veil.mk (show (O, ([] : List (Nat × List En))).1.length < 40000 from hn)
 have HKS := Veil.mk hk
 have HKL := Veil.mk (show w.heap.size <= kb /\ w.heap.size <= vb by omega)
 rw [hkb] at b1 b2
 rw [hvb] at b2
 have HB12 := Veil.mk (And.intro b1 b2)
 have x0 : W0.cell? ⟨kb, 0, none⟩ = some (.int .i64 k.1) := b1.at_ 0
 have x1 : W0.cell? ⟨kb, 1, none⟩ = some (.int .i64 k.2.1) := b1.at_ 1
 have x2 : W0.cell? ⟨kb, 2, none⟩ = some (.string k.2.2) := b1.at_ 2
 clear hb hp hO hF hB b1 b2 bb hW0 hkb hvb hlt hn
 go_enter Tryz.func72, Tryz.ntmps72
 go_upto_region 1 with (fail)
 rw [HW0.out.1, HW0.out.2.1, HW0.out.2.2]
 clear HW0
 obtain ⟨v0, hl⟩ : ∃ v0, lookO O (keyT k) = (v0, 0, false) := HLK
 have HOW1 : Veil (∀ W, Below w.heap.size w W -> Calls Tryz.prog 71 #[.pointer (some ⟨o, 0, none⟩), valV k] W fun e w' => e = .returned (.tuple #[valV v0, .int .i64 0, .bool false]) /\ Below W.heap.size W w') := ⟨fun W hb => (HOW.out W hb).mono fun e w' h => ⟨by have := h.1; rw [hl] at this; exact this, h.2⟩⟩
 clear hl
 go_upto_region 4 with (go_at_call 71; ((with_reducible refine (HOW1.out _ HBO.out.2).mono ?_); rintro e w1 ⟨rfl, hb1⟩))
 have hal : Below w1.heap.size w1 (w1.alloc (.cells #[.int .i64 v0.1, .int .i64 v0.2.1, .string v0.2.2] 28)) := (Below.refl _ _).alloc (Nat.le_refl _) _
 obtain ⟨W2, hW2⟩ : ∃ W2, w1.alloc (.cells #[.int .i64 v0.1, .int .i64 v0.2.1, .string v0.2.2] 28) = W2 := ⟨_, rfl⟩
 rw [hW2] at hal ⊢
 have HB2 : Veil (Below w.heap.size w W2) := ⟨blw2 (blw2 HBO.out.2 hb1) hal⟩
 have q1 := (HB12.out.1.on hb1 HB12.out.1.lt).below hal
 have q2 := (HB12.out.2.on hb1 HB12.out.2.lt).below hal
 have HB22 := Veil.mk (And.intro q1 q2)
 clear x0 x1 x2 hb1 hal hW2
 have x0 : W2.cell? ⟨kb, 0, none⟩ = some (.int .i64 k.1) := q1.at_ 0
 have x1 : W2.cell? ⟨kb, 1, none⟩ = some (.int .i64 k.2.1) := q1.at_ 1
 have x2 : W2.cell? ⟨kb, 2, none⟩ = some (.string k.2.2) := q1.at_ 2
 have o2 : W2.cell? ⟨o, 2, none⟩ = some (.bool false) := (HBO.out.1.below HB2.out).at_ 2
 clear q1 q2
 go_upto_region 10 with (go_at_call 107; ((with_reducible refine (HIL.out _ HB2.out).mono ?_); rintro e w3 ⟨rfl, hb3⟩))
 clear x0 x1 x2 o2
 have HB3 : Veil (Below w.heap.size w w3) := ⟨blw2 HB2.out hb3⟩
 have q1 := HB22.out.1.below hb3
 have q2 := HB22.out.2.below hb3
 have HB33 := Veil.mk (And.intro q1 q2)
 have x0 : w3.cell? ⟨kb, 0, none⟩ = some (.int .i64 k.1) := q1.at_ 0
 have x1 : w3.cell? ⟨kb, 1, none⟩ = some (.int .i64 k.2.1) := q1.at_ 1
 have x2 : w3.cell? ⟨kb, 2, none⟩ = some (.string k.2.2) := q1.at_ 2
 clear q1 q2 hb3
 go_upto_region 13 with (go_at_call 109; ((with_reducible refine (HEL.out _ HB3.out).mono ?_); rintro e w4 ⟨rfl, hb4⟩))
 clear x0 x1 x2
 have HB4 : Veil (Below w.heap.size w w4) := ⟨blw2 HB3.out hb4⟩
 have q1 := HB33.out.1.below hb4
 have q2 := HB33.out.2.below hb4
 have HB44 := Veil.mk (And.intro q1 q2)
 have o3 : w4.cell? ⟨o, 3, none⟩ = some (.pointer none) := (HBO.out.1.below HB4.out).at_ 3
 clear q1 q2 hb4 HB2 HB22 HB3 HB33 HOW HIL HEL HOW1
 have HNT := Veil.mk (new_tf (B := B) (w := w4) (by have := HB4.out.size; have := HBL.out; omega))
 have hnn : ¬ o = w4.heap.size := by have := HBO.out.1.lt; have := HB4.out.size; omega
 have o3f := (HBO.out.1.below HB4.out).free 3
 have KEE : Veil (∀ w5, Below w4.heap.size w4 w5 -> w5.cell? ⟨o, 3, none⟩ = some (.pointer none) /\ w5.frozen? ⟨o, 3, none⟩ = false) := ⟨fun w5 hb => ⟨((HBO.out.1.below HB4.out).below hb).at_ 3, ((HBO.out.1.below HB4.out).below hb).free 3⟩⟩
 go_upto_region 15 with (go_at_call 113; ((with_reducible refine HNT.out.mono ?_); rintro e w5 ⟨rfl, hT5, hb5⟩; obtain ⟨y0, y1⟩ := KEE.out _ hb5; have HT5 := Veil.mk (And.intro hT5 hb5); clear hT5 hb5))
 obtain ⟨hT5, hb5⟩ := HT5.out
 obtain ⟨t, ht⟩ : ∃ t, w4.heap.size = t := ⟨_, rfl⟩
 have tp := Touch.put (S := fun b => b = o) (w := w5) rfl 3 (.pointer (some ⟨w4.heap.size, 0, none⟩))
 have hbo5 := (HBO.out.1.below HB4.out).below hb5
 have hT6 := hT5.touch tp (fun b hb e => by rw [hb] at e; exact hnn e.symm)
 have hbo6 := hbo5.put 3 (.pointer (some ⟨w4.heap.size, 0, none⟩))
 have k6 := (HB44.out.1.below hb5).touch tp (fun e => by have h1 := HBO.out.1.lt; have h2 := HKL.out.1; omega)
 have v6 := (HB44.out.2.below hb5).touch tp (fun e => by have h1 := HBO.out.1.lt; have h2 := HKL.out.2; omega)
 have tt : Touch (fun b => b = o \/ F b) w (w5.setCell ⟨o, 3, none⟩ (.pointer (some ⟨w4.heap.size, 0, none⟩))) := (Touch.of_below (blw2 HB4.out hb5)).trans (tp.mono (fun b hb => .inl hb))
 obtain ⟨WC, hWC⟩ : ∃ WC, w5.setCell ⟨o, 3, none⟩ (.pointer (some ⟨w4.heap.size, 0, none⟩)) = WC := ⟨_, rfl⟩
 rw [hWC] at hT6 hbo6 k6 v6 tt ⊢
 rw [ht] at hT6 hbo6 ⊢
 obtain ⟨F1, hF1⟩ : ∃ F1 : Nat -> Prop, F1 = fun b => b = t := ⟨_, rfl⟩
 have HQ : Veil (Box WC o 63 (objF cl proto false (.pointer (some ⟨t, 0, none⟩)) ev fn kd) /\ Tf B t F1 (O, []) WC /\ Box WC kb 28 #[.int .i64 k.1, .int .i64 k.2.1, .string k.2.2] /\ Box WC vb 28 #[.int .i64 v.1, .int .i64 v.2.1, .string v.2.2] /\ Touch (fun b => b = o \/ F b) w WC /\ ∀ b, F1 b -> F b \/ w.heap.size <= b) := ⟨hbo6, by rw [hF1, HON0.out]; exact hT6, k6, v6, tt, fun b hb => .inr (by rw [hF1] at hb; have := HB4.out.size; rw [show b = t from hb, <- ht]; exact this)⟩
 clear hT5 hb5 ht tp hbo5 hT6 hbo6 k6 v6 tt hWC hF1 o3 o3f y0 y1 KEE HNT HT5
 obtain ⟨WD, hWD⟩ : ∃ WD, WC.drew = WD := ⟨_, rfl⟩
 have HOB : Veil (Box WD o 63 (objF cl proto false (.pointer (some ⟨t, 0, none⟩)) ev fn kd)) := ⟨by rw [<- hWD]; exact HQ.out.1.drew⟩
 have HTF : Veil (Tf B t F1 (O, []) WD) := ⟨by rw [<- hWD]; exact HQ.out.2.1.on (Below.refl _ _).drew⟩
 have HKB : Veil (Box WD kb 28 #[.int .i64 k.1, .int .i64 k.2.1, .string k.2.2]) := ⟨by rw [<- hWD]; exact HQ.out.2.2.1.drew⟩
 have HVB : Veil (Box WD vb 28 #[.int .i64 v.1, .int .i64 v.2.1, .string v.2.2]) := ⟨by rw [<- hWD]; exact HQ.out.2.2.2.1.drew⟩
 have HTC : Veil (Touch (fun b => b = o \/ F b) w WD /\ ∀ b, F1 b -> F b \/ w.heap.size <= b) := ⟨by rw [<- hWD]; exact HQ.out.2.2.2.2.1.trans (Touch.of_below (Below.refl _ _).drew), HQ.out.2.2.2.2.2⟩
 have HPU := Veil.mk (put_tf HTF.out HON.out (by simp) k v fl HKS.out)
 have HWD := Veil.mk hWD
 clear hWD HQ
 refine wp_region_chain [qp o 0, qp o 0, qp o 3, qp t 0, qv k, qv v, qi fl, none] (LPh [7] (DfSt B t F1 (putO (O, []) (keyT k) v fl) WD)) [some 77, some 78, some 79, some 80, some 81, some 82, some 83, some 84] (curV' _ [some 77, some 78, some 79, some 80, some 81, some 82, some 83, some 84]) (by kernel_rfl) rfl rfl (puts_cur _ _) (LPh.start (show WC.drew = WD from HWD.out)) ?_ (by kernel_rfl) ?_
 ·refine SY (fun _ S => ?_) ?_
  ·obtain ⟨⟩ := n8 S.hu
   rw [pin S.ha]
   go_simp
   exact S.kL 0
  refine SY (fun _ S => ?_) ?_
  ·obtain ⟨⟩ := n8 S.hu
   obtain rfl := S.q 0
   rw [pin S.ha]
   go_simp
   exact S.kL 1
  refine SY (fun _ S => ?_) ?_
  ·obtain ⟨⟩ := n8 S.hu
   obtain rfl := S.q 1
   rw [pin S.ha]
   go_simp
   exact S.kL 2
  refine SY (fun w' S => ?_) ?_
  ·obtain ⟨⟩ := n8 S.hu
   obtain rfl := S.q 2
   have h7 := S.hI.before 7 3 rfl (by kernel_rfl) S.h0
   have hst := S.hI.ph.at_ 0 7 rfl h7 (.inl rfl)
   clear h7
   have c0 : w'.cell? ⟨o, 3, none⟩ = some (.pointer (some ⟨t, 0, none⟩)) := by rw [show w' = WD from hst]; exact HOB.out.at_ 3
   rw [pin S.ha]
   go_simp
   exact S.kL 3
  refine SY (fun w' S => ?_) ?_
  ·obtain ⟨⟩ := n8 S.hu
   have h7 := S.hI.before 7 4 rfl (by kernel_rfl) S.h0
   have hst := S.hI.ph.at_ 0 7 rfl h7 (.inl rfl)
   clear h7
   have HKW : Box w' kb 28 #[.int .i64 k.1, .int .i64 k.2.1, .string k.2.2] := by rw [show w' = WD from hst]; exact HKB.out
   have c0 : w'.cell? ⟨kb, 0, none⟩ = some (.int .i64 k.1) := HKW.at_ 0
   have c1 : w'.cell? ⟨kb, 1, none⟩ = some (.int .i64 k.2.1) := HKW.at_ 1
   have c2 : w'.cell? ⟨kb, 2, none⟩ = some (.string k.2.2) := HKW.at_ 2
   clear HKW
   rw [pin S.ha]
   go_simp
   exact S.kL 4
  refine SY (fun w' S => ?_) ?_
  ·obtain ⟨⟩ := n8 S.hu
   have h7 := S.hI.before 7 5 rfl (by kernel_rfl) S.h0
   have hst := S.hI.ph.at_ 0 7 rfl h7 (.inl rfl)
   clear h7
   have HKW : Box w' vb 28 #[.int .i64 v.1, .int .i64 v.2.1, .string v.2.2] := by rw [show w' = WD from hst]; exact HVB.out
   have c0 : w'.cell? ⟨vb, 0, none⟩ = some (.int .i64 v.1) := HKW.at_ 0
   have c1 : w'.cell? ⟨vb, 1, none⟩ = some (.int .i64 v.2.1) := HKW.at_ 1
   have c2 : w'.cell? ⟨vb, 2, none⟩ = some (.string v.2.2) := HKW.at_ 2
   clear HKW
   rw [pin S.ha]
   go_simp
   exact S.kL 5
  refine SY (fun _ S => ?_) ?_
  ·obtain ⟨⟩ := n8 S.hu
   rw [pin S.ha]
   go_simp
   exact S.kL 6
  refine SY (fun w' S => ?_) ?_
  ·obtain ⟨⟩ := n8 S.hu
   obtain rfl := S.q 3
   obtain rfl := S.q 4
   obtain rfl := S.q 5
   obtain rfl := S.q 6
   have hst := S.hI.ph.at_ 0 7 rfl S.h0 (.inl rfl)
   have HP2 := HPU.out
   rw [<- show w' = WD from hst] at HP2
   have HP3 := Veil.mk HP2
   have HST := Veil.mk (show w' = WD from hst)
   clear HP2
   rw [pin S.ha]
   go_simp
   go_at_call 62
   refine HP3.out.mono ?_
   rintro e9 w9 ⟨rfl, F9, hT9, hs9⟩
   rw [HST.out] at hs9
   go_simp
   exact S.kN 7 (.tuple #[]) (S.hI.ph.next 0 7 _ rfl S.h0 (.inl rfl) (by decide) ⟨F9, hT9, hs9⟩)
  exact Steps.nil
 ·intro us w9 hus dd hD2 hJ
  obtain ⟨⟩ := n8 hus
  obtain ⟨F9, hT9, hs9⟩ := hJ.ph.all (fun c hc => hD2 c (by
   have : c = 7 := by simpa using hc
   show c < 8
   omega))
  have hob := HOB.out
  have hno : ¬ F1 o := HTF.out.not_lab hob.lab (by decide)
  have hfin : ∃ pv' F', Box w9 o 63 (objF cl proto false pv' ev fn kd) /\ PrAt B w9 pv' F' (putO (O, []) (keyT k) v fl).1 /\ Touch (fun b => b = o \/ F b) w w9 /\ ∀ b, F' b -> F b \/ w.heap.size <= b := by
   refine ⟨_, F9, (hs9.box hob hno).1, .inr ⟨t, rfl, ?_⟩, ?_, ?_⟩
   ·have e2 : (putO (O, []) (keyT k) v fl) = ((putO (O, []) (keyT k) v fl).1, []) := by
     unfold putO
     split <;> rfl
    rw [<- e2]
    exact hT9
   ·exact touch_new HTC.out.1 hs9.touch (fun b hb => (HTC.out.2 b hb).imp .inr id)
   ·intro b hb
    rcases hs9.fresh b hb with h | h
    ·exact HTC.out.2 b h
    ·exact .inr (by have := HTC.out.1.size; omega)
  have HZ := Veil.mk hfin
  clear hJ hD2 hT9 hs9 hob hno hfin
  simp only [puts, setAll, List.set_cons_zero, List.set_cons_succ, List.setIfInBounds_toArray]
  go_wp2
  go_ret
  obtain ⟨pv', F', r1, r2, r3, r4⟩ := HZ.out
  first | exact ⟨rfl, pv', r1, F', r2, r3, r4⟩ | exact ⟨rfl, pv', F', r1, r2, r3, r4⟩
theorem define_more {w : World} {B o : Nat} {cl proto : Int} {ev fn : Value} {kd : KD} {F1 : Nat -> Prop} {O : List En} {t : Nat} (hb : Box w o 63 (objF cl proto false (.pointer (some ⟨t, 0, none⟩)) ev fn kd))  (hT : Tf B t F1 (O, []) w) (hn : O.length < 40000) (fl : Int) (k v : Vt) (hc : NE cl k) (hk : k.2.2.size <= 1000) (HLK : ∃ v0, lookO O (keyT k) = (v0, 0, false)) :
  Calls Tryz.prog 72 #[.pointer (some ⟨o, 0, none⟩), valV k, valV v, .int .i64 fl] w fun e w' => e = .returned (.bool true) /\ ∃ pv' F', Box w' o 63 (objF cl proto false pv' ev fn kd) /\ PrAt B w' pv' F' (putO (O, []) (keyT k) v fl).1 /\ Touch (fun b => b = o \/ F1 b) w w' /\ ∀ b, F' b -> F1 b \/ w.heap.size <= b := by
 have hlt := hb.lt
 have hp : PrAt B w (.pointer (some ⟨t, 0, none⟩)) F1 O := .inr ⟨t, rfl, hT⟩
 have HTW := Veil.mk hT
 have HOW : Veil (∀ W, Below w.heap.size w W -> Calls Tryz.prog 71 #[.pointer (some ⟨o, 0, none⟩), valV k] W fun e w' => e = .returned (.tuple #[valV (lookO O (keyT k)).1, .int .i64 (lookO O (keyT k)).2.1, .bool (lookO O (keyT k)).2.2]) /\ Below W.heap.size W w') := ⟨fun W hbw => own_plain (hb.below hbw) (hp.on hbw) k hc hk⟩
 have HIL : Veil (∀ W, Below w.heap.size w W -> Calls Tryz.prog 107 #[.pointer (some ⟨o, 0, none⟩), valV k] W fun e w' => e = .returned (.bool false) /\ Below W.heap.size W w') := ⟨fun W hbw => hc.isLen (hb.below hbw)⟩
 have HEL : Veil (∀ W, Below w.heap.size w W -> Calls Tryz.prog 109 #[.pointer (some ⟨o, 0, none⟩), valV k] W fun e w' => e = .returned (.int .i64 (-1)) /\ Below W.heap.size W w') := ⟨fun W hbw => hc.elem (hb.below hbw)⟩
 obtain ⟨kb, hkb⟩ : ∃ kb, w.heap.size = kb := ⟨_, rfl⟩
 obtain ⟨vb, hvb⟩ : ∃ vb, kb + 1 = vb := ⟨_, rfl⟩
 have b1 := (Box.new w 28 #[.int .i64 k.1, .int .i64 k.2.1, .string k.2.2]).more (.cells #[.int .i64 v.1, .int .i64 v.2.1, .string v.2.2] 28)
 have b2 := Box.new (w.alloc (.cells #[.int .i64 k.1, .int .i64 k.2.1, .string k.2.2] 28)) 28 #[.int .i64 v.1, .int .i64 v.2.1, .string v.2.2]
 have bb : Below w.heap.size w ((w.alloc (.cells #[.int .i64 k.1, .int .i64 k.2.1, .string k.2.2] 28)).alloc (.cells #[.int .i64 v.1, .int .i64 v.2.1, .string v.2.2] 28)) := ((Below.refl _ _).alloc (Nat.le_refl _) _).alloc (by simp) _
 rw [World.size_alloc] at b2
 obtain ⟨W0, hW0⟩ : ∃ W0, ((w.alloc (.cells #[.int .i64 k.1, .int .i64 k.2.1, .string k.2.2] 28)).alloc (.cells #[.int .i64 v.1, .int .i64 v.2.1, .string v.2.2] 28)) = W0 := ⟨_, rfl⟩
 rw [hW0] at b1 b2 bb
 have HW0 := Veil.mk (And.intro hW0 (And.intro hkb hvb))
 have HBO := Veil.mk (And.intro hb bb)
 have HON := Veil.mk (show (O, ([] : List (Nat × List En))).1.length < 40000 from hn)
 have HKS := Veil.mk hk
 have HKL := Veil.mk (show w.heap.size <= kb /\ w.heap.size <= vb by omega)
 rw [hkb] at b1 b2
 rw [hvb] at b2
 have HB12 := Veil.mk (And.intro b1 b2)
 have x0 : W0.cell? ⟨kb, 0, none⟩ = some (.int .i64 k.1) := b1.at_ 0
 have x1 : W0.cell? ⟨kb, 1, none⟩ = some (.int .i64 k.2.1) := b1.at_ 1
 have x2 : W0.cell? ⟨kb, 2, none⟩ = some (.string k.2.2) := b1.at_ 2
 clear hb hp hT b1 b2 bb hW0 hkb hvb hlt hn
 go_enter Tryz.func72, Tryz.ntmps72
 go_upto_region 1 with (fail)
 rw [HW0.out.1, HW0.out.2.1, HW0.out.2.2]
 clear HW0
 obtain ⟨v0, hl⟩ : ∃ v0, lookO O (keyT k) = (v0, 0, false) := HLK
 have HOW1 : Veil (∀ W, Below w.heap.size w W -> Calls Tryz.prog 71 #[.pointer (some ⟨o, 0, none⟩), valV k] W fun e w' => e = .returned (.tuple #[valV v0, .int .i64 0, .bool false]) /\ Below W.heap.size W w') := ⟨fun W hb => (HOW.out W hb).mono fun e w' h => ⟨by have := h.1; rw [hl] at this; exact this, h.2⟩⟩
 clear hl
 go_upto_region 4 with (go_at_call 71; ((with_reducible refine (HOW1.out _ HBO.out.2).mono ?_); rintro e w1 ⟨rfl, hb1⟩))
 have hal : Below w1.heap.size w1 (w1.alloc (.cells #[.int .i64 v0.1, .int .i64 v0.2.1, .string v0.2.2] 28)) := (Below.refl _ _).alloc (Nat.le_refl _) _
 obtain ⟨W2, hW2⟩ : ∃ W2, w1.alloc (.cells #[.int .i64 v0.1, .int .i64 v0.2.1, .string v0.2.2] 28) = W2 := ⟨_, rfl⟩
 rw [hW2] at hal ⊢
 have HB2 : Veil (Below w.heap.size w W2) := ⟨blw2 (blw2 HBO.out.2 hb1) hal⟩
 have q1 := (HB12.out.1.on hb1 HB12.out.1.lt).below hal
 have q2 := (HB12.out.2.on hb1 HB12.out.2.lt).below hal
 have HB22 := Veil.mk (And.intro q1 q2)
 clear x0 x1 x2 hb1 hal hW2
 have x0 : W2.cell? ⟨kb, 0, none⟩ = some (.int .i64 k.1) := q1.at_ 0
 have x1 : W2.cell? ⟨kb, 1, none⟩ = some (.int .i64 k.2.1) := q1.at_ 1
 have x2 : W2.cell? ⟨kb, 2, none⟩ = some (.string k.2.2) := q1.at_ 2
 have o2 : W2.cell? ⟨o, 2, none⟩ = some (.bool false) := (HBO.out.1.below HB2.out).at_ 2
 clear q1 q2
 go_upto_region 10 with (go_at_call 107; ((with_reducible refine (HIL.out _ HB2.out).mono ?_); rintro e w3 ⟨rfl, hb3⟩))
 clear x0 x1 x2 o2
 have HB3 : Veil (Below w.heap.size w w3) := ⟨blw2 HB2.out hb3⟩
 have q1 := HB22.out.1.below hb3
 have q2 := HB22.out.2.below hb3
 have HB33 := Veil.mk (And.intro q1 q2)
 have x0 : w3.cell? ⟨kb, 0, none⟩ = some (.int .i64 k.1) := q1.at_ 0
 have x1 : w3.cell? ⟨kb, 1, none⟩ = some (.int .i64 k.2.1) := q1.at_ 1
 have x2 : w3.cell? ⟨kb, 2, none⟩ = some (.string k.2.2) := q1.at_ 2
 clear q1 q2 hb3
 go_upto_region 13 with (go_at_call 109; ((with_reducible refine (HEL.out _ HB3.out).mono ?_); rintro e w4 ⟨rfl, hb4⟩))
 clear x0 x1 x2
 have HB4 : Veil (Below w.heap.size w w4) := ⟨blw2 HB3.out hb4⟩
 have q1 := HB33.out.1.below hb4
 have q2 := HB33.out.2.below hb4
 have HB44 := Veil.mk (And.intro q1 q2)
 have o3 : w4.cell? ⟨o, 3, none⟩ = some (.pointer (some ⟨t, 0, none⟩)) := (HBO.out.1.below HB4.out).at_ 3
 clear q1 q2 hb4 HB2 HB22 HB3 HB33 HOW HIL HEL HOW1
 have HQ : Veil (Box w4 o 63 (objF cl proto false (.pointer (some ⟨t, 0, none⟩)) ev fn kd) /\ Tf B t F1 (O, []) w4 /\ Box w4 kb 28 #[.int .i64 k.1, .int .i64 k.2.1, .string k.2.2] /\ Box w4 vb 28 #[.int .i64 v.1, .int .i64 v.2.1, .string v.2.2] /\ Touch (fun b => b = o \/ F1 b) w w4 /\ ∀ b, F1 b -> F1 b \/ w.heap.size <= b) := ⟨HBO.out.1.below HB4.out, HTW.out.on HB4.out, HB44.out.1, HB44.out.2, Touch.of_below HB4.out, fun b hb => .inl hb⟩
 go_upto_region 15 with (fail)
 clear o3
 obtain ⟨WD, hWD⟩ : ∃ WD, w4.drew = WD := ⟨_, rfl⟩
 have HOB : Veil (Box WD o 63 (objF cl proto false (.pointer (some ⟨t, 0, none⟩)) ev fn kd)) := ⟨by rw [<- hWD]; exact HQ.out.1.drew⟩
 have HTF : Veil (Tf B t F1 (O, []) WD) := ⟨by rw [<- hWD]; exact HQ.out.2.1.on (Below.refl _ _).drew⟩
 have HKB : Veil (Box WD kb 28 #[.int .i64 k.1, .int .i64 k.2.1, .string k.2.2]) := ⟨by rw [<- hWD]; exact HQ.out.2.2.1.drew⟩
 have HVB : Veil (Box WD vb 28 #[.int .i64 v.1, .int .i64 v.2.1, .string v.2.2]) := ⟨by rw [<- hWD]; exact HQ.out.2.2.2.1.drew⟩
 have HTC : Veil (Touch (fun b => b = o \/ F1 b) w WD /\ ∀ b, F1 b -> F1 b \/ w.heap.size <= b) := ⟨by rw [<- hWD]; exact HQ.out.2.2.2.2.1.trans (Touch.of_below (Below.refl _ _).drew), HQ.out.2.2.2.2.2⟩
 have HPU := Veil.mk (put_tf HTF.out HON.out (by simp) k v fl HKS.out)
 have HWD := Veil.mk hWD
 clear hWD HQ
 refine wp_region_chain [qp o 0, qp o 0, qp o 3, qp t 0, qv k, qv v, qi fl, none] (LPh [7] (DfSt B t F1 (putO (O, []) (keyT k) v fl) WD)) [some 77, some 78, some 79, some 80, some 81, some 82, some 83, some 84] (curV' _ [some 77, some 78, some 79, some 80, some 81, some 82, some 83, some 84]) (by kernel_rfl) rfl rfl (puts_cur _ _) (LPh.start (show w4.drew = WD from HWD.out)) ?_ (by kernel_rfl) ?_
 ·refine SY (fun _ S => ?_) ?_
  ·obtain ⟨⟩ := n8 S.hu
   rw [pin S.ha]
   go_simp
   exact S.kL 0
  refine SY (fun _ S => ?_) ?_
  ·obtain ⟨⟩ := n8 S.hu
   obtain rfl := S.q 0
   rw [pin S.ha]
   go_simp
   exact S.kL 1
  refine SY (fun _ S => ?_) ?_
  ·obtain ⟨⟩ := n8 S.hu
   obtain rfl := S.q 1
   rw [pin S.ha]
   go_simp
   exact S.kL 2
  refine SY (fun w' S => ?_) ?_
  ·obtain ⟨⟩ := n8 S.hu
   obtain rfl := S.q 2
   have h7 := S.hI.before 7 3 rfl (by kernel_rfl) S.h0
   have hst := S.hI.ph.at_ 0 7 rfl h7 (.inl rfl)
   clear h7
   have c0 : w'.cell? ⟨o, 3, none⟩ = some (.pointer (some ⟨t, 0, none⟩)) := by rw [show w' = WD from hst]; exact HOB.out.at_ 3
   rw [pin S.ha]
   go_simp
   exact S.kL 3
  refine SY (fun w' S => ?_) ?_
  ·obtain ⟨⟩ := n8 S.hu
   have h7 := S.hI.before 7 4 rfl (by kernel_rfl) S.h0
   have hst := S.hI.ph.at_ 0 7 rfl h7 (.inl rfl)
   clear h7
   have HKW : Box w' kb 28 #[.int .i64 k.1, .int .i64 k.2.1, .string k.2.2] := by rw [show w' = WD from hst]; exact HKB.out
   have c0 : w'.cell? ⟨kb, 0, none⟩ = some (.int .i64 k.1) := HKW.at_ 0
   have c1 : w'.cell? ⟨kb, 1, none⟩ = some (.int .i64 k.2.1) := HKW.at_ 1
   have c2 : w'.cell? ⟨kb, 2, none⟩ = some (.string k.2.2) := HKW.at_ 2
   clear HKW
   rw [pin S.ha]
   go_simp
   exact S.kL 4
  refine SY (fun w' S => ?_) ?_
  ·obtain ⟨⟩ := n8 S.hu
   have h7 := S.hI.before 7 5 rfl (by kernel_rfl) S.h0
   have hst := S.hI.ph.at_ 0 7 rfl h7 (.inl rfl)
   clear h7
   have HKW : Box w' vb 28 #[.int .i64 v.1, .int .i64 v.2.1, .string v.2.2] := by rw [show w' = WD from hst]; exact HVB.out
   have c0 : w'.cell? ⟨vb, 0, none⟩ = some (.int .i64 v.1) := HKW.at_ 0
   have c1 : w'.cell? ⟨vb, 1, none⟩ = some (.int .i64 v.2.1) := HKW.at_ 1
   have c2 : w'.cell? ⟨vb, 2, none⟩ = some (.string v.2.2) := HKW.at_ 2
   clear HKW
   rw [pin S.ha]
   go_simp
   exact S.kL 5
  refine SY (fun _ S => ?_) ?_
  ·obtain ⟨⟩ := n8 S.hu
   rw [pin S.ha]
   go_simp
   exact S.kL 6
  refine SY (fun w' S => ?_) ?_
  ·obtain ⟨⟩ := n8 S.hu
   obtain rfl := S.q 3
   obtain rfl := S.q 4
   obtain rfl := S.q 5
   obtain rfl := S.q 6
   have hst := S.hI.ph.at_ 0 7 rfl S.h0 (.inl rfl)
   have HP2 := HPU.out
   rw [<- show w' = WD from hst] at HP2
   have HP3 := Veil.mk HP2
   have HST := Veil.mk (show w' = WD from hst)
   clear HP2
   rw [pin S.ha]
   go_simp
   go_at_call 62
   refine HP3.out.mono ?_
   rintro e9 w9 ⟨rfl, F9, hT9, hs9⟩
   rw [HST.out] at hs9
   go_simp
   exact S.kN 7 (.tuple #[]) (S.hI.ph.next 0 7 _ rfl S.h0 (.inl rfl) (by decide) ⟨F9, hT9, hs9⟩)
  exact Steps.nil
 ·intro us w9 hus dd hD2 hJ
  obtain ⟨⟩ := n8 hus
  obtain ⟨F9, hT9, hs9⟩ := hJ.ph.all (fun c hc => hD2 c (by
   have : c = 7 := by simpa using hc
   show c < 8
   omega))
  have hob := HOB.out
  have hno : ¬ F1 o := HTF.out.not_lab hob.lab (by decide)
  have hfin : ∃ pv' F', Box w9 o 63 (objF cl proto false pv' ev fn kd) /\ PrAt B w9 pv' F' (putO (O, []) (keyT k) v fl).1 /\ Touch (fun b => b = o \/ F1 b) w w9 /\ ∀ b, F' b -> F1 b \/ w.heap.size <= b := by
   refine ⟨_, F9, (hs9.box hob hno).1, .inr ⟨t, rfl, ?_⟩, ?_, ?_⟩
   ·have e2 : (putO (O, []) (keyT k) v fl) = ((putO (O, []) (keyT k) v fl).1, []) := by
     unfold putO
     split <;> rfl
    rw [<- e2]
    exact hT9
   ·exact touch_new HTC.out.1 hs9.touch (fun b hb => (HTC.out.2 b hb).imp .inr id)
   ·intro b hb
    rcases hs9.fresh b hb with h | h
    ·exact HTC.out.2 b h
    ·exact .inr (by have := HTC.out.1.size; omega)
  have HZ := Veil.mk hfin
  clear hJ hD2 hT9 hs9 hob hno hfin
  simp only [puts, setAll, List.set_cons_zero, List.set_cons_succ, List.setIfInBounds_toArray]
  go_wp2
  go_ret
  obtain ⟨pv', F', r1, r2, r3, r4⟩ := HZ.out
  first | exact ⟨rfl, pv', r1, F', r2, r3, r4⟩ | exact ⟨rfl, pv', F', r1, r2, r3, r4⟩
end Go.Proofs.YtahkohfppakaiaaGreatDoor
