/- The arena and the heap, as they lie. -/
import Derived.Test.YtgdkjkfbknbgkaaGreatDoorRows
import Derived.WalkKit
import Derived.WalkSpells
import Derived.WalkLawsBesides
import Derived.Below
import Derived.BigQuiet
import Derived.IntWalk
import Derived.Deep.LoopGhost
import Derived.Lib.OthersKept
import Derived.Lib.UnsafeStr
import Derived.Lib.BufferRead
import Derived.Laws.MakeOwn
import Derived.Laws.OwnMore
import Derived.Deep.QuietTactic
import Derived.Laws.RangeAny
import Derived.Lib.Hide
import Derived.Deep.AppendLies
import Derived.Laws.Rows
import Derived.Deep.CutBlock
import Derived.Deep.RegionLaw
import Derived.Deep.RegionHeld3
import Derived.RegionTactic
import Derived.BigRegion
import Derived.ChangeAlike
import Derived.LoopTactic
namespace Go.Proofs.YtgdkjkfbknbgkaaGreatDoor
open Go.RowKit

theorem ret_int {k : IntKind} {a b : Int} (h : a = b) : Ending.returned (.int k a) = Ending.returned (.int k b) := by rw [h]
theorem ret_bool {a b : Bool} (h : a = b) : Ending.returned (.bool a) = Ending.returned (.bool b) := by rw [h]
/-- A fact that no search of the walk's looks into. -/
structure Veil (p : Prop) : Prop where
  out : p
theorem lt_of_block {w : World} {k : Nat} {o : Obj} (h : w.heap[k]? = some o) : k < w.heap.size := (Array.getElem?_eq_some_iff.1 h).1
theorem blw2 {w w1 w2 : World} (h : Below w.heap.size w w1) (h2 : Below w1.heap.size w1 w2) : Below w.heap.size w w2 := h.trans (h2.mono h.size)
/-- A block that is known whole. -/
def Box (w : World) (g : Nat) (t : TypeId) (cs : Array Value) : Prop := w.heap[g]? = some (.cells cs t (0, 0))
section
variable {w w' : World} {g : Nat} {t : TypeId} {cs : Array Value}
theorem Box.lt (h : Box w g t cs) : g < w.heap.size := (Array.getElem?_eq_some_iff.1 h).1
theorem Box.at_ (h : Box w g t cs) (i : Nat) : w.cell? ⟨g, i, none⟩ = cs[i]? := cell_of_row w g i cs t (0, 0) h
theorem Box.free (h : Box w g t cs) (i : Nat) : w.frozen? ⟨g, i, none⟩ = false := by
  have h' : w.heap[g]? = some (.cells cs t (0, 0)) := h
  simp [World.frozen?, h']
theorem Box.new (w : World) (t : TypeId) (cs : Array Value) : Box (w.alloc (.cells cs t)) w.heap.size t cs := by
  show (w.heap.push _)[w.heap.size]? = _
  simp
theorem Box.on {B : Nat} (h : Box w g t cs) (hb : Below B w w') (hg : g < B) : Box w' g t cs := (hb.block g hg).trans h
theorem Box.more (h : Box w g t cs) (o : Obj) : Box (w.alloc o) g t cs := (Below.heap_alloc w o g h.lt).trans h
theorem Box.grown {row : Option Nat} (h : Box w g t cs) (hb : w.grownBy w' row) (hg : some g ≠ row) : Box w' g t cs := (hb.block g h.lt hg).trans h
theorem Box.put (h : Box w g t cs) (i : Nat) (u : Value) : Box (w.setCell ⟨g, i, none⟩ u) g t (cs.setIfInBounds i u) := by
  have h' : w.heap[g]? = some (.cells cs t (0, 0)) := h
  show (w.heap.modify g _)[g]? = _
  simp [Array.getElem?_modify, h']
theorem Box.other {g2 : Nat} {t2 : TypeId} {cs2 : Array Value} (h : Box w g t cs) (h2 : Box w g2 t2 cs2) (hne : t ≠ t2) : g ≠ g2 := by
  intro e
  subst e
  have := (show w.heap[g]? = some (.cells cs t (0, 0)) from h).symm.trans h2
  injection this with this
  injection this with _ ht
  exact hne ht
theorem Box.apart {base : Nat} {e : TypeId} {size n : Nat} {v : Value} {xs : List Value} (h : Box w g t cs) (ho : w.ownsRow base e size v n xs) (hne : t ≠ e) : some g ≠ v.ownBlock := by
  intro he
  rcases ho.2 with ⟨rfl, _⟩ | ⟨g2, cap, cur, rfl, _, hh, _⟩
  · simp [Value.ownBlock] at he
  · have e2 : g = g2 := by simpa [Value.ownBlock] using he
    subst e2
    exact Box.other (g2 := g) h hh hne rfl
end

/-- Nothing that lay there has changed but block g. -/
def Only (a w : World) (g : Nat) : Prop := a.grownBy w (some g)
section
variable {a w w' : World} {g : Nat}
theorem Only.refl (w : World) (g : Nat) : Only w w g := World.grownBy.refl w _
theorem Only.alloc (h : Only a w g) (o : Obj) : Only a (w.alloc o) g := ⟨h.os, h.tape, h.output, Nat.le_trans h.size (by simp), fun i hi hne => (Below.heap_alloc w o i (Nat.lt_of_lt_of_le hi h.size)).trans (h.block i hi hne)⟩
theorem Only.drewN (h : Only a w g) (n : Nat) : Only a (w.drewN n) g := ⟨h.os, h.tape, h.output, h.size, h.block⟩
theorem Only.drew (h : Only a w g) : Only a w.drew g := ⟨h.os, h.tape, h.output, h.size, h.block⟩
theorem Only.put (h : Only a w g) (i : Nat) (u : Value) : Only a (w.setCell ⟨g, i, none⟩ u) g :=
  ⟨h.os, h.tape, h.output, by simpa [World.setCell] using h.size, fun k hk hne => (Below.heap_setCell w ⟨g, i, none⟩ u k (fun e => hne (by rw [e]))).trans (h.block k hk hne)⟩
theorem Only.grown {row : Option Nat} (h : Only a w g) (hg : w.grownBy w' row) (hr : ∀ k, row = some k → a.heap.size ≤ k) : Only a w' g :=
  ⟨hg.os.trans h.os, hg.tape.trans h.tape, hg.output.trans h.output, Nat.le_trans h.size hg.size, fun k hk hne => (hg.block k (Nat.lt_of_lt_of_le hk h.size) (fun e => by have := hr k e.symm; omega)).trans (h.block k hk hne)⟩
theorem Only.below {B : Nat} (h : Only a w g) (hB : B ≤ g) (hs : B ≤ a.heap.size) : Below B a w := ⟨h.os, h.tape, h.output, h.size, fun k hk => h.block k (by omega) (fun e => by injection e with e; omega)⟩
end
theorem grownBy_of_below {w w' : World} (h : Below w.heap.size w w') (row : Option Nat) : w.grownBy w' row := ⟨h.os, h.tape, h.output, h.size, fun i hi _ => h.block i hi⟩

/-- The cells of a function's code, all but its lists empty. -/
theorem tmod_bd (n m : Int) (h : 0 < m) : -m < n.tmod m ∧ n.tmod m < m := by
  rcases Int.le_total 0 n with hn | hn
  · rw [Int.tmod_eq_emod_of_nonneg hn]
    have := Int.emod_nonneg n (by omega : m ≠ 0)
    have := Int.emod_lt_of_pos n h
    omega
  · have e : n.tmod m = -((-n) % m) := by rw [← Int.tmod_eq_emod_of_nonneg (by omega : 0 ≤ -n), Int.neg_tmod, Int.neg_neg]
    have := Int.emod_nonneg (-n) (by omega : m ≠ 0)
    have := Int.emod_lt_of_pos (-n) h
    omega
theorem rem_nat (n : Int) (m : Nat) (h : 0 < m) : ∃ r : Nat, r < m ∧ (n.tmod (m : Int) + (m : Int)).tmod (m : Int) = (r : Int) ∧ (n.tmod (m : Int) + (m : Int)) % (m : Int) = (r : Int) ∧ 0 < n.tmod (m : Int) + (m : Int) ∧ n.tmod (m : Int) < (m : Int) := by
  have hb := tmod_bd n m (by omega)
  have hE : (n.tmod (m : Int) + (m : Int)).tmod (m : Int) = (n.tmod (m : Int) + (m : Int)) % (m : Int) := Int.tmod_eq_emod_of_nonneg (by omega)
  have h0 := Int.emod_nonneg (n.tmod (m : Int) + (m : Int)) (by omega : (m : Int) ≠ 0)
  have h1 := Int.emod_lt_of_pos (n.tmod (m : Int) + (m : Int)) (by omega : (0 : Int) < (m : Int))
  refine ⟨((n.tmod (m : Int) + (m : Int)) % (m : Int)).toNat, by omega, by rw [hE]; omega, by omega, by omega, hb.2⟩


theorem cells_new (w : World) (cs : List Value) (t : TypeId) : ∀ j u, cs[j]? = some u → (w.alloc (.cells cs.toArray t)).cell? ((⟨w.heap.size, 0, none⟩ : Addr).add j) = some u := by
  intro j u hj
  have : ((⟨w.heap.size, 0, none⟩ : Addr).add j) = ⟨w.heap.size, j, none⟩ := by
    unfold Addr.add; split
    · simp [*]
    · simp
  rw [this]
  simp [hj]
theorem one_new (w : World) (v : Value) (t : TypeId) (n : Nat) (hn : w.heap.size = n) : ∀ j u, [v][j]? = some u → (w.alloc (.cells #[v] t)).cell? ((⟨n, 0, none⟩ : Addr).add j) = some u := by subst hn; exact cells_new w [v] t
theorem three_new (w : World) (x y z : Value) (t : TypeId) (n : Nat) (hn : w.heap.size = n) : ∀ j u, [x, y, z][j]? = some u → (w.alloc (.cells #[x, y, z] t)).cell? ((⟨n, 0, none⟩ : Addr).add j) = some u := by subst hn; exact cells_new w [x, y, z] t
/-- Of what lay there only the blocks of S may have changed. -/
structure Touch (S : Nat → Prop) (w w' : World) : Prop where
  os : w'.os = w.os
  tape : w'.tape = w.tape
  output : w'.output = w.output
  size : w.heap.size ≤ w'.heap.size
  block : ∀ k, k < w.heap.size → ¬ S k → w'.heap[k]? = w.heap[k]?
section
variable {S : Nat → Prop} {a w w' : World}
theorem Touch.refl (S : Nat → Prop) (w : World) : Touch S w w := ⟨rfl, rfl, rfl, Nat.le_refl _, fun _ _ _ => rfl⟩
theorem Touch.trans (h : Touch S a w) (h2 : Touch S w w') : Touch S a w' := ⟨h2.os.trans h.os, h2.tape.trans h.tape, h2.output.trans h.output, Nat.le_trans h.size h2.size, fun k hk hs => (h2.block k (Nat.lt_of_lt_of_le hk h.size) hs).trans (h.block k hk hs)⟩
theorem Touch.mono {S' : Nat → Prop} (h : Touch S a w) (hs : ∀ k, S k → S' k) : Touch S' a w := ⟨h.os, h.tape, h.output, h.size, fun k hk hn => h.block k hk (fun h2 => hn (hs k h2))⟩
theorem Touch.of_below (h : Below a.heap.size a w) : Touch S a w := ⟨h.os, h.tape, h.output, h.size, fun k hk _ => h.block k hk⟩
theorem Touch.of_grown {row : Option Nat} (h : a.grownBy w row) (hs : ∀ k, row = some k → S k) : Touch S a w := ⟨h.os, h.tape, h.output, h.size, fun k hk hn => h.block k hk (fun e => hn (hs k e.symm))⟩
theorem Touch.put {g : Nat} (hs : S g) (i : Nat) (u : Value) : Touch S w (w.setCell ⟨g, i, none⟩ u) :=
  ⟨rfl, rfl, rfl, by simp [World.setCell], fun k _ hn => Below.heap_setCell w ⟨g, i, none⟩ u k (fun e => hn (by rw [e]; exact hs))⟩
theorem Touch.below {B : Nat} (h : Touch S a w) (hB : B ≤ a.heap.size) (hs : ∀ k, S k → B ≤ k) : Below B a w := ⟨h.os, h.tape, h.output, h.size, fun k hk => h.block k (by omega) (fun h2 => by have := hs k h2; omega)⟩
theorem Box.touch {g : Nat} {t : TypeId} {cs : Array Value} (h : Box a g t cs) (ht : Touch S a w) (hn : ¬ S g) : Box w g t cs := (ht.block g h.lt hn).trans h
theorem own_touch {base : Nat} {e : TypeId} {size : Nat} {v : Value} {n : Nat} {xs : List Value} (h : a.ownsRow base e size v n xs) (ht : Touch S a w) (hn : ∀ k, v.ownBlock = some k → ¬ S k) : w.ownsRow base e size v n xs := by
  refine ⟨h.1, ?_⟩
  rcases h.2 with h2 | ⟨g, cap, cur, e1, e2, e3, e4⟩
  · exact .inl h2
  · refine .inr ⟨g, cap, cur, e1, e2, ?_, e4⟩
    rw [ht.block g (Array.getElem?_eq_some_iff.1 e3).1 (hn g (by rw [e1]; rfl))]
    exact e3
end
theorem mask (m : Nat) (hm : m < 63) (n : Int) : ∃ q : Nat, bits .and .i64 n ((2 ^ m - 1 : Nat) : Int) = (q : Int) ∧ q < 2 ^ m := by
  have hp : 2 ^ m ≤ 2 ^ 62 := Nat.pow_le_pow_right (by omega) (by omega)
  have hp2 : 0 < 2 ^ m := Nat.two_pow_pos m
  have h127 : (BitVec.ofInt 64 ((2 ^ m - 1 : Nat) : Int)).toNat = 2 ^ m - 1 := by
    rw [BitVec.ofInt_natCast, BitVec.toNat_ofNat]; exact Nat.mod_eq_of_lt (by omega)
  have key : (BitVec.ofInt 64 n &&& BitVec.ofInt 64 ((2 ^ m - 1 : Nat) : Int)).toNat = (n % ((2 ^ 64 : Nat) : Int)).toNat % 2 ^ m := by
    rw [BitVec.toNat_and, BitVec.toNat_ofInt, h127, Nat.and_two_pow_sub_one_eq_mod]
  have hlt := Nat.mod_lt (n % ((2 ^ 64 : Nat) : Int)).toNat hp2
  refine ⟨(n % ((2 ^ 64 : Nat) : Int)).toNat % 2 ^ m, ?_, hlt⟩
  show IntKind.i64.wrap ((BitVec.ofInt 64 n &&& BitVec.ofInt 64 ((2 ^ m - 1 : Nat) : Int)).toNat : Nat) = _
  rw [key, IntKind.wrap_i64]
  omega
abbrev Vt := Int × Int × ByteArray
abbrev valV (x : Vt) : Value := .agg #[.int .i64 x.1, .int .i64 x.2.1, .string x.2.2]
abbrev e0 : ByteArray := ⟨#[]⟩
end Go.Proofs.YtgdkjkfbknbgkaaGreatDoor
namespace Go.Proofs.YtgdkjkfbknbgkaaGreatDoor
open Go Go.RowKit

theorem own_put {w : World} {B g n cap : Nat} {e : TypeId} {xs : List Value} (h : w.ownsRow B e 1 (.slice (some ⟨g, 0, none⟩) n cap) n xs) (i : Nat) (u : Value) : (w.setCell ⟨g, i, none⟩ u).ownsRow B e 1 (.slice (some ⟨g, 0, none⟩) n cap) n (xs.set i u) := by
  refine ⟨by rw [List.length_set]; exact h.1, ?_⟩
  rcases h.2 with ⟨h1, _⟩ | ⟨g', cap', cur, h1, h2, h3, h4, h5, h6, h7⟩
  · cases h1
  · cases h1
    refine .inr ⟨g, cap, cur.setIfInBounds i u, rfl, h2, ?_, h4, h5, by rw [Array.size_setIfInBounds]; exact h6, ?_⟩
    · show (w.heap.modify g _)[g]? = _
      simp [Array.getElem?_modify, h3]
    · rw [Array.toList_setIfInBounds, List.take_set, h7]
theorem Box.drew {w : World} {g : Nat} {t : TypeId} {cs : Array Value} (h : Box w g t cs) : Box w.drew g t cs := h
theorem own_drew {w : World} {base : Nat} {e : TypeId} {size : Nat} {v : Value} {n : Nat} {xs : List Value} (h : w.ownsRow base e size v n xs) : w.drew.ownsRow base e size v n xs := h
theorem cells_drew {w : World} {a : Addr} {cs : List Value} (h : ∀ j u, cs[j]? = some u → w.cell? (a.add j) = some u) : ∀ j u, cs[j]? = some u → w.drew.cell? (a.add j) = some u := h
theorem news_at (w : World) (n : Nat) (hn : w.heap.size = n) (cs : List Value) (t : TypeId) : ∀ j u, cs[j]? = some u → (w.alloc (.cells cs.toArray t)).cell? ((⟨n, 0, none⟩ : Addr).add j) = some u := by subst hn; exact cells_new w cs t

theorem own_free {w : World} {B g n cap size : Nat} {e : TypeId} {xs : List Value} (h : w.ownsRow B e size (.slice (some ⟨g, 0, none⟩) n cap) n xs) (i : Nat) : w.frozen? ⟨g, i, none⟩ = false := by
  rcases h.2 with ⟨h1, _⟩ | ⟨g', cap', cur, h1, h2, h3, _⟩
  · cases h1
  · cases h1
    simp [World.frozen?, h3]
def Lab (w : World) (k : Nat) (e : TypeId) : Prop := ∃ cs fr, w.heap[k]? = some (.cells cs e fr)
theorem Lab.ne {w : World} {k k' : Nat} {e e' : TypeId} (h : Lab w k e) (h' : Lab w k' e') (he : e ≠ e') : k ≠ k' := by
  rintro rfl
  obtain ⟨cs, fr, h⟩ := h
  obtain ⟨cs', fr', h'⟩ := h'
  rw [h] at h'
  injection h' with h'
  injection h' with _ h'
  exact he h'
theorem Box.lab {w : World} {g : Nat} {t : TypeId} {cs : Array Value} (h : Box w g t cs) : Lab w g t := ⟨cs, _, h⟩
theorem own_lab {w : World} {B n size : Nat} {v : Value} {xs : List Value} {e : TypeId} (h : w.ownsRow B e size v n xs) : ∀ k, v.ownBlock = some k → Lab w k e := fun k hk => by
  rcases h.2 with ⟨rfl, _⟩ | ⟨g, cap, cur, rfl, _, hc, _⟩
  · cases hk
  · cases hk; exact ⟨cur, _, hc⟩
theorem own_lt {w : World} {B n size : Nat} {v : Value} {xs : List Value} {e : TypeId} (h : w.ownsRow B e size v n xs) : ∀ k, v.ownBlock = some k → B ≤ k ∧ k < w.heap.size := fun k hk => h.lt k hk
theorem slice_own {w : World} {B n size : Nat} {v : Value} {xs : List Value} {e : TypeId} (h : w.ownsRow B e size v n xs) : ∃ ao cap, v = .slice ao n cap ∧ n ≤ cap ∧ (0 < n → ∃ g, ao = some ⟨g, 0, none⟩) ∧ cap ≤ maxLen := by
  rcases h.2 with ⟨rfl, h0⟩ | ⟨g, cap, cur, rfl, _, _, hc, hm, _⟩
  · exact ⟨none, 0, by rw [h0], by omega, fun h => by omega, by unfold maxLen; omega⟩
  · exact ⟨_, cap, rfl, hc, fun _ => ⟨g, rfl⟩, hm⟩
theorem own_take {w : World} {B g n cap m : Nat} {e : TypeId} {xs : List Value} (h : w.ownsRow B e 1 (.slice (some ⟨g, 0, none⟩) n cap) n xs) (hm : m ≤ n) : w.ownsRow B e 1 (.slice (some ⟨g, 0, none⟩) m cap) m (xs.take m) := by
  refine ⟨by rw [List.length_take, h.1]; omega, ?_⟩
  rcases h.2 with ⟨h1, _⟩ | ⟨g', cap', cur, h1, h2, h3, h4, h5, h6, h7⟩
  · cases h1
  · cases h1
    refine .inr ⟨g, cap, cur, rfl, h2, h3, by omega, h5, h6, ?_⟩
    rw [← h7, List.take_take]
    congr 1
    omega
theorem Below.lab {w w' : World} {k : Nat} {e : TypeId} (h : Lab w k e) (hk : k < w.heap.size) (hb : Below w.heap.size w w') : Lab w' k e := by
  obtain ⟨cs, fr, h⟩ := h
  exact ⟨cs, fr, (hb.block k hk).trans h⟩
theorem own_below {w w' : World} {B n size : Nat} {v : Value} {xs : List Value} {e : TypeId} (h : w.ownsRow B e size v n xs) (hb : Below w.heap.size w w') : w'.ownsRow B e size v n xs := own_touch h (Touch.of_below (S := fun _ => False) hb) (fun _ _ h => h)
theorem Box.below {w w' : World} {g : Nat} {t : TypeId} {cs : Array Value} (h : Box w g t cs) (hb : Below w.heap.size w w') : Box w' g t cs := h.on hb h.lt
/-- A slice value reads as these numbers. -/
def Ints (w : World) (a : Option Addr) (n : Nat) (l : List Int) : Prop := l.length = n ∧ (0 < n → ∃ b o, a = some ⟨b, o, none⟩ ∧ b < w.heap.size ∧ Lab w b 3 ∧ ∀ i, i < n → w.cell? ⟨b, o + i, none⟩ = some (.int .i64 (l[i]?.getD 0)))
theorem cell_touch {S : Nat → Prop} {w w' : World} {b o : Nat} (ht : Touch S w w') (hb : b < w.heap.size) (hn : ¬ S b) : w'.cell? ⟨b, o, none⟩ = w.cell? ⟨b, o, none⟩ := by
  have h := ht.block b hb hn
  simp only [World.cell?, h]
theorem Ints.touch {S : Nat → Prop} {w w' : World} {a : Option Addr} {n : Nat} {l : List Int} (h : Ints w a n l) (ht : Touch S w w') (hn : ∀ b o, a = some ⟨b, o, none⟩ → ¬ S b) : Ints w' a n l :=
  ⟨h.1, fun hp => by
    obtain ⟨b, o, e, hlt, ⟨cs, fr, hl⟩, hc⟩ := h.2 hp
    exact ⟨b, o, e, by have := ht.size; omega, ⟨cs, fr, (ht.block b hlt (hn b o e)).trans hl⟩, fun i hi => by rw [cell_touch ht hlt (hn b o e)]; exact hc i hi⟩⟩
theorem Ints.on {w w1 : World} {a : Option Addr} {n : Nat} {l : List Int} (h : Ints w a n l) (hb : Below w.heap.size w w1) : Ints w1 a n l := h.touch (S := fun _ => False) (Touch.of_below hb) (fun _ _ _ h => h)
theorem Ints.nil (w : World) : Ints w none 0 [] := ⟨rfl, fun h => by omega⟩
abbrev numsV (l : List Nat) : List Value := l.map fun (r : Nat) => .int .i64 (r : Int)
abbrev intsV (l : List Int) : List Value := l.map fun r => .int .i64 r
/-- A body: a node's block, or none. -/
abbrev Bd := TypeId × Nat
def bodyV (o : Option Bd) : Value := match o with | none => .nilIface | some nb => .iface nb.1 (.pointer (some ⟨nb.2, 0, none⟩))
/-- What an arena has. -/
structure AD where
  cells : List (Option Bd)
  free : List Nat
  count : Nat
  roots : List Int
structure ArAt (w : World) (B A : Nat) (cv fv rv : Value) (d : AD) : Prop where
  box : Box w A 155 #[cv, fv, .int .i64 (d.count : Int), rv]
  co : w.ownsRow B 137 1 cv d.cells.length (d.cells.map bodyV)
  fo : w.ownsRow B 3 1 fv d.free.length (numsV d.free)
  ro : w.ownsRow B 3 1 rv d.roots.length (intsV d.roots)
  ap : ∀ k, fv.ownBlock = some k → rv.ownBlock ≠ some k
  ha : B ≤ A
/-- An arena's own blocks. -/
def AFoot (A : Nat) (cv fv rv : Value) (k : Nat) : Prop := k = A ∨ cv.ownBlock = some k ∨ fv.ownBlock = some k ∨ rv.ownBlock = some k
theorem ArAt.touch {w w' : World} {B A : Nat} {cv fv rv : Value} {d : AD} {S : Nat → Prop} (h : ArAt w B A cv fv rv d) (ht : Touch S w w') (hn : ∀ k, AFoot A cv fv rv k → ¬ S k) : ArAt w' B A cv fv rv d :=
  ⟨h.box.touch ht (hn A (.inl rfl)), own_touch h.co ht (fun k hk => hn k (.inr (.inl hk))), own_touch h.fo ht (fun k hk => hn k (.inr (.inr (.inl hk)))), own_touch h.ro ht (fun k hk => hn k (.inr (.inr (.inr hk)))), h.ap, h.ha⟩
theorem ArAt.on {w w' : World} {B A : Nat} {cv fv rv : Value} {d : AD} (h : ArAt w B A cv fv rv d) (hb : Below w.heap.size w w') : ArAt w' B A cv fv rv d := h.touch (S := fun _ => False) (Touch.of_below hb) (fun _ _ h => h)
theorem AFoot.lt {w : World} {B A : Nat} {cv fv rv : Value} {d : AD} (h : ArAt w B A cv fv rv d) {k : Nat} (hk : AFoot A cv fv rv k) : B ≤ k ∧ k < w.heap.size := by
  rcases hk with rfl | hk | hk | hk
  · exact ⟨h.ha, h.box.lt⟩
  · exact own_lt h.co k hk
  · exact own_lt h.fo k hk
  · exact own_lt h.ro k hk
/-- How an arena lies behind a call: F is what was its own before. -/
def ArPost (B A : Nat) (d : AD) (F : Nat → Prop) (w w' : World) : Prop := ∃ cv fv rv, ArAt w' B A cv fv rv d ∧ Touch F w w' ∧ ∀ k, AFoot A cv fv rv k → F k ∨ w.heap.size ≤ k
theorem cell_body {w : World} {B A : Nat} {cv fv rv : Value} {d : AD} (h : ArAt w B A cv fv rv d) (i : Nat) (hi : i < d.cells.length) : ∃ g cap, cv = .slice (some ⟨g, 0, none⟩) d.cells.length cap ∧ w.cell? ⟨g, i, none⟩ = some (bodyV (d.cells[i]?.getD none)) := by
  obtain ⟨ao, cap, rfl, hcap, hg, -⟩ := slice_own h.co
  obtain ⟨g, rfl⟩ := hg (by omega)
  refine ⟨g, cap, rfl, ?_⟩
  rw [h.co.cellAt i (by omega), List.getElem?_map, List.getElem?_eq_getElem hi]
  rfl
theorem len_le {w : World} {B n size : Nat} {v : Value} {xs : List Value} {e : TypeId} (h : w.ownsRow B e size v n xs) : n ≤ maxLen := by
  obtain ⟨ao, cap, rfl, hcap, hg, hm⟩ := slice_own h
  omega
set_option maxRecDepth 100000 in
theorem body_nil (o : Option Bd) (w : World) : (binOp .eql 137 (bodyV o) .nilIface).run Tryz.prog w = .ok (.bool o.isNone) w := by
  cases o <;> rfl
set_option maxRecDepth 100000 in
theorem body_nnil (o : Option Bd) (w : World) : (binOp .neq 137 (bodyV o) .nilIface).run Tryz.prog w = .ok (.bool (!o.isNone)) w := by
  cases o <;> rfl
/-! New, Count, Depth, Get -/
abbrev emptyD : AD := ⟨[], [], 0, []⟩
set_option maxRecDepth 100000 in
theorem new_any (w : World) : Calls Tryz.prog 91 #[] w fun e w' => e = .returned (.pointer (some ⟨w.heap.size, 0, none⟩)) ∧ Below w.heap.size w w' ∧ w.heap.size < w'.heap.size ∧ ArAt w' w.heap.size w.heap.size (.slice none 0 0) (.slice none 0 0) (.slice none 0 0) emptyD := by
  have hb : Below w.heap.size w (w.alloc (.cells #[.slice none 0 0, .slice none 0 0, .int .i64 0, .slice none 0 0] 155)) := (Below.refl _ _).alloc (Nat.le_refl _) _
  have bx := Box.new w 155 #[.slice none 0 0, .slice none 0 0, .int .i64 0, .slice none 0 0]
  go_enter Tryz.func91, Tryz.ntmps91
  go_wp2
  go_ret
  exact ⟨rfl, hb, bx.lt, ⟨bx, ⟨rfl, .inl ⟨rfl, rfl⟩⟩, ⟨rfl, .inl ⟨rfl, rfl⟩⟩, ⟨rfl, .inl ⟨rfl, rfl⟩⟩, (fun k hk => by cases hk), Nat.le_refl _⟩⟩
set_option maxRecDepth 100000 in
theorem count_any (B A : Nat) (cv fv rv : Value) (d : AD) (w : World) (h : ArAt w B A cv fv rv d) : Calls Tryz.prog 114 #[.pointer (some ⟨A, 0, none⟩)] w fun e w' => e = .returned (.int .i64 (d.count : Int)) ∧ w' = w := by
  have c2 : w.cell? ⟨A, 2, none⟩ = some (.int .i64 (d.count : Int)) := h.box.at_ 2
  clear h
  go_enter Tryz.func114, Tryz.ntmps114
  go_wp2
  go_ret
  exact ⟨rfl, rfl⟩
/-- The cell of a number. -/
def AD.get (d : AD) (r : Int) : Option Bd := if 1 ≤ r ∧ r ≤ d.cells.length then d.cells[(r - 1).toNat]?.getD none else none
set_option maxHeartbeats 1000000 in
set_option maxRecDepth 100000 in
theorem get_any (B A : Nat) (cv fv rv : Value) (d : AD) (r : Int) (w : World) (h : ArAt w B A cv fv rv d) : Calls Tryz.prog 58 #[.pointer (some ⟨A, 0, none⟩), .int .i64 r] w fun e w' => e = .returned (bodyV (d.get r)) ∧ w' = w := by
  obtain ⟨ao, cap, hcv, -, -, -⟩ := slice_own h.co
  have c0 : w.cell? ⟨A, 0, none⟩ = some (.slice ao d.cells.length cap) := by rw [h.box.at_ 0, hcv]; rfl
  by_cases h1 : r < 1
  · have hg : d.get r = none := by unfold AD.get; rw [if_neg (by omega)]
    rw [hg]
    clear h hcv hg
    go_enter Tryz.func58, Tryz.ntmps58
    go_wp2
    go_ret
    exact ⟨rfl, rfl⟩
  · by_cases h2 : (d.cells.length : Int) < r
    · have hg : d.get r = none := by unfold AD.get; rw [if_neg (by omega)]
      rw [hg]
      clear h hcv hg
      go_enter Tryz.func58, Tryz.ntmps58
      go_wp2
      go_ret
      exact ⟨rfl, rfl⟩
    · have hg : d.get r = d.cells[(r - 1).toNat]?.getD none := by unfold AD.get; rw [if_pos (by omega)]
      obtain ⟨k, hk⟩ : ∃ k : Nat, r = (k : Int) + 1 := ⟨(r - 1).toNat, by omega⟩
      subst hk
      obtain ⟨g, cap', e, hc⟩ := cell_body h k (by omega)
      rw [hcv] at e
      injection e with e1 e2 e3
      subst e1 e3
      rw [hg, show ((k : Int) + 1 - 1).toNat = k by omega]
      obtain ⟨b, hb⟩ : ∃ b, d.cells[k]?.getD none = b := ⟨_, rfl⟩
      rw [hb] at hc ⊢
      have hm := len_le h.co
      unfold maxLen at hm
      have hk0 : (0 : Int) ≤ (k : Int) := by omega
      have hkl : (k : Int) < (d.cells.length : Int) := by omega
      have hk1 : (k : Int) + 1 - 1 = (k : Int) := by omega
      clear h hcv hg hb
      go_enter Tryz.func58, Tryz.ntmps58
      go_wp2
      go_ret
      exact ⟨rfl, rfl⟩
end Go.Proofs.YtgdkjkfbknbgkaaGreatDoor
namespace Go.Proofs.YtgdkjkfbknbgkaaGreatDoor
open Go Go.RowKit

theorem Tryz.infoB : (Tryz.prog.info? 137).map (fun i => (i.zero, i.size, i.bytes)) = some (some .nilIface, 1, 16) := by kernel_rfl
theorem Tryz.infoI : (Tryz.prog.info? 3).map (fun i => (i.zero, i.size, i.bytes)) = some (some (.int .i64 0), 1, 8) := by kernel_rfl
section
variable {w : World} {B A : Nat} {cv fv rv : Value} {d : AD}
theorem ArAt.put0 (h : ArAt w B A cv fv rv d) (cv' : Value) (cs : List (Option Bd)) (ho : w.ownsRow B 137 1 cv' cs.length (cs.map bodyV)) : ArAt (w.setCell ⟨A, 0, none⟩ cv') B A cv' fv rv { d with cells := cs } := by
  have tp : Touch (fun k => k = A) w (w.setCell ⟨A, 0, none⟩ cv') := Touch.put (S := fun k => k = A) rfl _ _
  exact ⟨h.box.put 0 _, own_touch ho tp (fun k hk e => ((own_lab ho k hk).ne h.box.lab (by decide)) e), own_touch h.fo tp (fun k hk e => ((own_lab h.fo k hk).ne h.box.lab (by decide)) e), own_touch h.ro tp (fun k hk e => ((own_lab h.ro k hk).ne h.box.lab (by decide)) e), h.ap, h.ha⟩
theorem ArAt.put1 (h : ArAt w B A cv fv rv d) (fv' : Value) (fs : List Nat) (ho : w.ownsRow B 3 1 fv' fs.length (numsV fs)) (ha : ∀ k, fv'.ownBlock = some k → rv.ownBlock ≠ some k) : ArAt (w.setCell ⟨A, 1, none⟩ fv') B A cv fv' rv { d with free := fs } := by
  have tp : Touch (fun k => k = A) w (w.setCell ⟨A, 1, none⟩ fv') := Touch.put (S := fun k => k = A) rfl _ _
  exact ⟨h.box.put 1 _, own_touch h.co tp (fun k hk e => ((own_lab h.co k hk).ne h.box.lab (by decide)) e), own_touch ho tp (fun k hk e => ((own_lab ho k hk).ne h.box.lab (by decide)) e), own_touch h.ro tp (fun k hk e => ((own_lab h.ro k hk).ne h.box.lab (by decide)) e), ha, h.ha⟩
theorem ArAt.put2 (h : ArAt w B A cv fv rv d) (n : Nat) : ArAt (w.setCell ⟨A, 2, none⟩ (.int .i64 (n : Int))) B A cv fv rv { d with count := n } := by
  have tp : Touch (fun k => k = A) w (w.setCell ⟨A, 2, none⟩ (.int .i64 (n : Int))) := Touch.put (S := fun k => k = A) rfl _ _
  exact ⟨h.box.put 2 _, own_touch h.co tp (fun k hk e => ((own_lab h.co k hk).ne h.box.lab (by decide)) e), own_touch h.fo tp (fun k hk e => ((own_lab h.fo k hk).ne h.box.lab (by decide)) e), own_touch h.ro tp (fun k hk e => ((own_lab h.ro k hk).ne h.box.lab (by decide)) e), h.ap, h.ha⟩
theorem ArAt.put3 (h : ArAt w B A cv fv rv d) (rv' : Value) (rs : List Int) (ho : w.ownsRow B 3 1 rv' rs.length (intsV rs)) (ha : ∀ k, fv.ownBlock = some k → rv'.ownBlock ≠ some k) : ArAt (w.setCell ⟨A, 3, none⟩ rv') B A cv fv rv' { d with roots := rs } := by
  have tp : Touch (fun k => k = A) w (w.setCell ⟨A, 3, none⟩ rv') := Touch.put (S := fun k => k = A) rfl _ _
  exact ⟨h.box.put 3 _, own_touch h.co tp (fun k hk e => ((own_lab h.co k hk).ne h.box.lab (by decide)) e), own_touch h.fo tp (fun k hk e => ((own_lab h.fo k hk).ne h.box.lab (by decide)) e), own_touch ho tp (fun k hk e => ((own_lab ho k hk).ne h.box.lab (by decide)) e), ha, h.ha⟩
theorem ArAt.setB {g n cap : Nat} (h : ArAt w B A (.slice (some ⟨g, 0, none⟩) n cap) fv rv d) (k : Nat) (b : Option Bd) : ArAt (w.setCell ⟨g, k, none⟩ (bodyV b)) B A (.slice (some ⟨g, 0, none⟩) n cap) fv rv { d with cells := d.cells.set k b } := by
  obtain ⟨ao, cap', e, -, -, -⟩ := slice_own h.co
  cases e
  have tp : Touch (fun k => k = g) w (w.setCell ⟨g, k, none⟩ (bodyV b)) := Touch.put (S := fun k => k = g) rfl _ _
  have hl := own_lab h.co g rfl
  refine ⟨h.box.touch tp (fun e => (h.box.lab.ne hl (by decide)) e), ?_, own_touch h.fo tp (fun k hk e => ((own_lab h.fo k hk).ne hl (by decide)) e), own_touch h.ro tp (fun k hk e => ((own_lab h.ro k hk).ne hl (by decide)) e), h.ap, h.ha⟩
  have := own_put h.co k (bodyV b)
  show World.ownsRow _ B _ 1 _ (d.cells.set k b).length ((d.cells.set k b).map bodyV)
  rw [List.length_set, List.map_set]
  exact this
end
/-- A number is taken. -/
def AD.mk2 (d : AD) (nb : Bd) : AD × Nat := match d.free.getLast? with
  | none => (⟨d.cells ++ [some nb], d.free, d.count + 1, d.roots⟩, d.cells.length + 1)
  | some r => (⟨d.cells.set (r - 1) (some nb), d.free.dropLast, d.count + 1, d.roots⟩, r)
abbrev nodeV (nb : Bd) : Value := .iface nb.1 (.pointer (some ⟨nb.2, 0, none⟩))
set_option maxRecDepth 100000 in
theorem nodeV_eql (nb : Bd) (w : World) : (binOp .eql 137 (nodeV nb) .nilIface).run Tryz.prog w = .ok (.bool false) w := rfl
def MkPost (B A : Nat) (d : AD) (nb : Bd) (F : Nat → Prop) (w : World) (e : Ending) (w' : World) : Prop := e = .returned (.int .i64 ((d.mk2 nb).2 : Int)) ∧ ArPost B A (d.mk2 nb).1 F w w'
set_option maxHeartbeats 2000000 in
set_option maxRecDepth 100000 in
theorem make_new (B A : Nat) (cv fv rv : Value) (d : AD) (nb : Bd) (w : World) (h : ArAt w B A cv fv rv d) (hf : d.free = []) (hc : d.count < 4194304) (hl : d.cells.length < 1000000) :
    Calls Tryz.prog 33 #[.pointer (some ⟨A, 0, none⟩), nodeV nb] w (MkPost B A d nb (AFoot A cv fv rv) w) := by
  obtain ⟨i0, hi, hz0, hz1, hz2⟩ := info_parts Tryz.infoB
  obtain ⟨ao, cap, rfl, hcap, hgc, hmc⟩ := slice_own h.co
  obtain ⟨ao1, cap1, rfl, -, -, -⟩ := slice_own h.fo
  have c1 : w.cell? ⟨A, 1, none⟩ = some (.slice ao1 0 cap1) := by rw [h.box.at_ 1, hf]; rfl
  have c2 : w.cell? ⟨A, 2, none⟩ = some (.int .i64 (d.count : Int)) := h.box.at_ 2
  have c2f := h.box.free 2
  have hn := nodeV_eql nb
  have hge : ((d.count : Int) ≥ 4194304) = False := by simp; omega
  have hge2 : ¬ (4194304 : Int) ≤ (d.count : Int) := by omega
  have hc0 : (0 : Int) ≤ (d.count : Int) := by omega
  have hc1 : (d.count : Int) < 4194304 := by omega
  have H := Veil.mk h
  have HM : Veil (MkPost B A d nb = fun F w e w' => e = .returned (.int .i64 ((d.cells.length : Int) + 1)) ∧ ArPost B A ⟨d.cells ++ [some nb], d.free, d.count + 1, d.roots⟩ F w w') := ⟨by
    funext F w e w'
    unfold MkPost AD.mk2
    rw [hf]
    rfl⟩
  rw [HM.out]
  have HF := Veil.mk hf
  clear h hge hf
  go_enter Tryz.func33, Tryz.ntmps33
  go_upto_region 4 with (fail)
  have h1 := H.out.put2 (d.count + 1)
  have t1 : Touch (fun k => k = A) w (w.setCell ⟨A, 2, none⟩ (.int .i64 ((d.count + 1 : Nat) : Int))) := Touch.put (S := fun k => k = A) rfl _ _
  rw [show ((d.count + 1 : Nat) : Int) = (d.count : Int) + 1 by omega] at h1 t1
  generalize w.setCell ⟨A, 2, none⟩ (.int .i64 ((d.count : Int) + 1)) = W at h1 t1 ⊢
  have d1 : W.cell? ⟨A, 1, none⟩ = some (.slice ao1 0 cap1) := by rw [h1.box.at_ 1]; show some (Value.slice ao1 d.free.length cap1) = _; rw [HF.out]; rfl
  have d0 : W.cell? ⟨A, 0, none⟩ = some (.slice ao d.cells.length cap) := h1.box.at_ 0
  have d0f := h1.box.free 0
  have hBs : B ≤ W.heap.size := by have := h1.ha; have := h1.box.lt; omega
  have hap := h1.box.apart h1.co (by decide)
  have tl2 : A < W.heap.size := h1.box.lt
  have hco : W.ownsRow B 137 1 (.slice ao d.cells.length cap) d.cells.length (d.cells.map bodyV) := h1.co
  clear c1 c2 c2f
  go_wp2_with (at_builtin; go_loud (refine wpList_append_lies _ rfl _ _ 153 rfl B 137 i0 .nilIface 1 16 Tryz.underlying153 hi hz0 hz1 hz2 rfl (by decide) _ _ _ rfl (hco.alloc _) ⟨W.heap.size, 0, none⟩ 1 1 [nodeV nb] rfl rfl (news_at _ _ rfl _ _) (by simp [Value.oneCell']) (by decide) (by unfold maxLen; omega) (by omega) (by simp; omega) _ rfl ?_); intro g cap' w3 hown' hgrow3 hblk hg3; have hx3 : Box w3 A _ _ := (h1.box.more _).grown hgrow3 hap; have e12 : w3.cell? ⟨A, 0, none⟩ = some (.slice ao d.cells.length cap) := hx3.at_ 0; have e13 := hx3.free 0; refine Hid.out ?_)
  have hgrow : (W.alloc (.cells #[nodeV nb] 137)).grownBy w3 (Value.slice ao d.cells.length cap).ownBlock := hgrow3
  have hblk' : (Value.slice ao d.cells.length cap).ownBlock = some g ∨ g = (W.alloc (.cells #[nodeV nb] 137)).heap.size := hblk
  have ht : Touch (fun k => (Value.slice ao d.cells.length cap).ownBlock = some k) W w3 := (Touch.of_below ((Below.refl W.heap.size W).alloc (Nat.le_refl _) (.cells #[nodeV nb] 137))).trans (Touch.of_grown hgrow (fun k hk => hk))
  have lc := own_lab h1.co
  have f3 := own_touch h1.fo ht (fun k hk e => (lc k e).ne (own_lab h1.fo k hk) (by decide) rfl)
  have r3 := own_touch h1.ro ht (fun k hk e => (lc k e).ne (own_lab h1.ro k hk) (by decide) rfl)
  have tp : Touch (fun k => k = A) w3 (w3.setCell ⟨A, 0, none⟩ (.slice (some ⟨g, 0, none⟩) (d.cells.length + 1) cap')) := Touch.put (S := fun k => k = A) rfl _ _
  have hnew : w3.ownsRow B 137 1 (.slice (some ⟨g, 0, none⟩) (d.cells.length + 1) cap') (d.cells ++ [some nb]).length ((d.cells ++ [some nb]).map bodyV) := by
    rw [List.length_append, List.map_append]
    exact hown'
  have hD : ArPost B A ⟨d.cells ++ [some nb], d.free, d.count + 1, d.roots⟩ (AFoot A (.slice ao d.cells.length cap) (.slice ao1 d.free.length cap1) rv) w (w3.setCell ⟨A, 0, none⟩ (.slice (some ⟨g, 0, none⟩) (d.cells.length + 1) cap')) := by
    refine ⟨_, _, _, ⟨hx3.put 0 _, own_touch hnew tp (fun k hk e => ((own_lab hnew k hk).ne hx3.lab (by decide)) e), own_touch f3 tp (fun k hk e => ((own_lab f3 k hk).ne hx3.lab (by decide)) e), own_touch r3 tp (fun k hk e => ((own_lab r3 k hk).ne hx3.lab (by decide)) e), h1.ap, h1.ha⟩, ?_, ?_⟩
    · exact (t1.mono (fun k hk => .inl hk)).trans ((ht.mono (fun k hk => .inr (.inl hk))).trans (tp.mono (fun k hk => .inl hk)))
    · rintro k (hk | hk | hk | hk)
      · exact .inl (.inl hk)
      · cases hk
        rcases hblk' with hb | hb
        · exact .inl (.inr (.inl hb))
        · have := t1.size
          refine .inr ?_
          show w.heap.size ≤ g
          rw [hb, World.size_alloc]
          omega
      · exact .inl (.inr (.inr (.inl hk)))
      · exact .inl (.inr (.inr (.inr hk)))
  have HD := Veil.mk hD
  clear hD ht hblk' hgrow hgrow3 hblk hown' h1 hap f3 r3 tp hnew
  refine Lib.hid ?_
  go_upto_region 11 with (fail)
  have x0 : (w3.setCell ⟨A, 0, none⟩ (.slice (some ⟨g, 0, none⟩) (d.cells.length + 1) cap')).cell? ⟨A, 0, none⟩ = some (.slice (some ⟨g, 0, none⟩) (d.cells.length + 1) cap') := (hx3.put 0 _).at_ 0
  generalize w3.setCell ⟨A, 0, none⟩ (.slice (some ⟨g, 0, none⟩) (d.cells.length + 1) cap') = W5 at HD x0 ⊢
  clear hx3 e12 e13 d0 d0f d1
  go_wp2
  go_ret
  exact ⟨rfl, HD.out⟩
set_option maxHeartbeats 2000000 in
set_option maxRecDepth 100000 in
theorem make_old (B A : Nat) (cv fv rv : Value) (d : AD) (nb : Bd) (w : World) (h : ArAt w B A cv fv rv d) (f : List Nat) (r : Nat) (hf : d.free = f ++ [r + 1]) (hr : r < d.cells.length) (hc : d.count < 4194304) (hl : d.cells.length < 1000000) (hfl : d.free.length < 1000000) :
    Calls Tryz.prog 33 #[.pointer (some ⟨A, 0, none⟩), nodeV nb] w (MkPost B A d nb (AFoot A cv fv rv) w) := by
  obtain ⟨ao, cap, rfl, hcap, hgc, hmc⟩ := slice_own h.co
  obtain ⟨gc, rfl⟩ := hgc (by omega)
  obtain ⟨ao1, cap1, rfl, hcap1, hg1, hm1⟩ := slice_own h.fo
  have hfl1 : d.free.length = f.length + 1 := by rw [hf]; simp
  obtain ⟨gf, rfl⟩ := hg1 (by omega)
  have c1 : w.cell? ⟨A, 1, none⟩ = some (.slice (some ⟨gf, 0, none⟩) (f.length + 1) cap1) := by rw [h.box.at_ 1, hfl1]; rfl
  have c2 : w.cell? ⟨A, 2, none⟩ = some (.int .i64 (d.count : Int)) := h.box.at_ 2
  have c2f := h.box.free 2
  have hn := nodeV_eql nb
  have hge2 : ¬ (4194304 : Int) ≤ (d.count : Int) := by omega
  have hc0 : (0 : Int) ≤ (d.count : Int) := by omega
  have hc1 : (d.count : Int) < 4194304 := by omega
  have H := Veil.mk h
  have HM : Veil (MkPost B A d nb = fun F w e w' => e = .returned (.int .i64 ((r : Int) + 1)) ∧ ArPost B A ⟨d.cells.set r (some nb), f, d.count + 1, d.roots⟩ F w w') := ⟨by
    funext F w e w'
    unfold MkPost AD.mk2
    rw [hf, List.getLast?_append]
    simp⟩
  rw [HM.out]
  have HF := Veil.mk hf
  have hfl2 : f.length < 1000000 := by omega
  clear h hf
  go_enter Tryz.func33, Tryz.ntmps33
  go_upto_region 4 with (fail)
  have h1 := H.out.put2 (d.count + 1)
  have t1 : Touch (fun k => k = A) w (w.setCell ⟨A, 2, none⟩ (.int .i64 ((d.count + 1 : Nat) : Int))) := Touch.put (S := fun k => k = A) rfl _ _
  rw [show ((d.count + 1 : Nat) : Int) = (d.count : Int) + 1 by omega] at h1 t1
  generalize w.setCell ⟨A, 2, none⟩ (.int .i64 ((d.count : Int) + 1)) = W at h1 t1 ⊢
  have d1 : W.cell? ⟨A, 1, none⟩ = some (.slice (some ⟨gf, 0, none⟩) (f.length + 1) cap1) := by rw [h1.box.at_ 1]; show some (Value.slice _ d.free.length cap1) = _; rw [hfl1]
  have d1f := h1.box.free 1
  have d2 : W.cell? ⟨gf, f.length, none⟩ = some (.int .i64 ((r : Int) + 1)) := by
    rw [h1.fo.cellAt f.length (by show _ < d.free.length * 1; omega)]
    show (numsV d.free)[f.length]? = _
    rw [HF.out]
    simp
  have hfl0 : (0 : Int) ≤ (f.length : Int) := by omega
  have hcp : (f.length : Int) ≤ (cap1 : Int) := by omega
  have hlt1 : (f.length : Int) < (f.length : Int) + 1 := by omega
  have hsub : (f.length : Int) + 1 - 1 = (f.length : Int) := by omega
  clear c1 c2 c2f
  go_upto_region 8 with (fail)
  have hcut : W.ownsRow B 3 1 (.slice (some ⟨gf, 0, none⟩) f.length cap1) f.length (numsV f) := by
    have := own_take h1.fo (m := f.length) (by show _ ≤ d.free.length; omega)
    have e : (numsV d.free).take f.length = numsV f := by rw [HF.out]; simp
    have h2 : List.take f.length (numsV ({ d with count := d.count + 1 } : AD).free) = numsV f := e
    rw [h2] at this
    exact this
  have h2 := h1.put1 (.slice (some ⟨gf, 0, none⟩) f.length cap1) f hcut (fun k hk => h1.ap k hk)
  have t2 : Touch (fun k => k = A) W (W.setCell ⟨A, 1, none⟩ (.slice (some ⟨gf, 0, none⟩) f.length cap1)) := Touch.put (S := fun k => k = A) rfl _ _
  generalize W.setCell ⟨A, 1, none⟩ (.slice (some ⟨gf, 0, none⟩) f.length cap1) = W5 at h2 t2 ⊢
  have x0 : W5.cell? ⟨A, 0, none⟩ = some (.slice (some ⟨gc, 0, none⟩) d.cells.length cap) := h2.box.at_ 0
  have x1f : W5.frozen? ⟨gc, r, none⟩ = false := own_free h2.co r
  have x1 : ∃ v, W5.cell? ⟨gc, r, none⟩ = some v := by
    rw [h2.co.cellAt r (by show _ < d.cells.length * 1; omega)]
    exact ⟨_, List.getElem?_eq_getElem (by rw [List.length_map]; exact hr)⟩
  obtain ⟨v1, x1⟩ := x1
  have h3 := h2.setB r (some nb)
  have t3 : Touch (fun k => k = gc) W5 (W5.setCell ⟨gc, r, none⟩ (bodyV (some nb))) := Touch.put (S := fun k => k = gc) rfl _ _
  have hD : ArPost B A ⟨d.cells.set r (some nb), f, d.count + 1, d.roots⟩ (AFoot A (.slice (some ⟨gc, 0, none⟩) d.cells.length cap) (.slice (some ⟨gf, 0, none⟩) d.free.length cap1) rv) w (W5.setCell ⟨gc, r, none⟩ (nodeV nb)) := by
    refine ⟨_, _, _, h3, (t1.mono (fun k hk => .inl hk)).trans ((t2.mono (fun k hk => .inl hk)).trans (t3.mono (fun k hk => .inr (.inl (by rw [hk]; rfl))))), fun k hk => ?_⟩
    rcases hk with hk | hk | hk | hk
    · exact .inl (.inl hk)
    · exact .inl (.inr (.inl hk))
    · exact .inl (.inr (.inr (.inl hk)))
    · exact .inl (.inr (.inr (.inr hk)))
  have HD := Veil.mk hD
  have hr0 : (0 : Int) ≤ (r : Int) := by omega
  have hr1 : (r : Int) < (d.cells.length : Int) := by omega
  have hr2 : (r : Int) + 1 - 1 = (r : Int) := by omega
  clear h1 h2 h3 t1 t2 t3 hD hcut d1 d1f d2 hlt1
  go_wp2
  go_ret
  exact ⟨rfl, HD.out⟩
end Go.Proofs.YtgdkjkfbknbgkaaGreatDoor
namespace Go.Proofs.YtgdkjkfbknbgkaaGreatDoor
open Go Go.RowKit

theorem AFoot.lab {w : World} {B A : Nat} {cv fv rv : Value} {d : AD} (h : ArAt w B A cv fv rv d) {k : Nat} {e : TypeId} (hl : Lab w k e) (e1 : e ≠ 155) (e2 : e ≠ 137) (e3 : e ≠ 3) : ¬ AFoot A cv fv rv k := fun hk => by
  rcases hk with hk | hk | hk | hk
  · exact hl.ne h.box.lab e1 hk
  · exact hl.ne (own_lab h.co k hk) e2 rfl
  · exact hl.ne (own_lab h.fo k hk) e3 rfl
  · exact hl.ne (own_lab h.ro k hk) e3 rfl
abbrev objV (nb : Nat) : Value := .iface 40 (.pointer (some ⟨nb, 0, none⟩))
/-- A fresh object's cells. -/
abbrev obj0 (cl proto : Int) : Array Value := #[.int .i64 cl, .int .i64 proto, .bool false, .pointer none, .slice none 0 0, .slice none 0 0, .pointer none, .pointer none, .pointer none, .slice none 0 0, .nilIface, .int .i64 0, .int .i64 0, .int .i64 0, .int .i64 0, .nilIface]
/-- A heap: its box beside its arena. -/
structure HpAt (w : World) (B h A : Nat) (cv fv rv : Value) (d : AD) : Prop where
  hb : Box w h 102 #[.pointer (some ⟨A, 0, none⟩), .int .i64 0]
  ar : ArAt w B A cv fv rv d
  hB : B ≤ h
set_option maxRecDepth 100000 in
theorem heap_new (w : World) : Calls Tryz.prog 57 #[] w fun e w' => ∃ h, e = .returned (.pointer (some ⟨h, 0, none⟩)) ∧ Below w.heap.size w w' ∧ HpAt w' w.heap.size h w.heap.size (.slice none 0 0) (.slice none 0 0) (.slice none 0 0) emptyD := by
  have HN := Veil.mk (new_any w)
  obtain ⟨A, hA⟩ : ∃ A, w.heap.size = A := ⟨_, rfl⟩
  rw [hA] at HN ⊢
  have HA := Veil.mk hA
  clear hA
  go_enter Tryz.func57, Tryz.ntmps57
  go_wp2_with (first | (go_at_call 91; ((with_reducible refine HN.out.mono ?_); rintro e w4 ⟨rfl, hb4, hs4, ha4⟩)))
  have bx := Box.new w4 102 #[.pointer (some ⟨A, 0, none⟩), .int .i64 0]
  have b5 : Below w4.heap.size w4 (w4.alloc (.cells #[.pointer (some ⟨A, 0, none⟩), .int .i64 0] 102)) := (Below.refl _ _).alloc (Nat.le_refl _) _
  go_ret
  exact ⟨_, rfl, hb4.trans (b5.mono (by omega)), bx, ha4.on b5, by omega⟩
set_option maxHeartbeats 1000000 in
set_option maxRecDepth 100000 in
theorem heap_make {w : World} {B h A : Nat} {cv fv rv : Value} {d : AD} (hp : HpAt w B h A cv fv rv d) (cl proto : Int) (hf : d.free = []) (hc : d.count < 1000000) (hl : d.cells.length < 1000000) :
    Calls Tryz.prog 13 #[.pointer (some ⟨h, 0, none⟩), .int .i64 cl, .int .i64 proto] w fun e w' => e = .returned (.tuple #[.int .i64 ((d.cells.length : Int) + 1), .pointer (some ⟨w.heap.size, 0, none⟩)]) ∧ Box w' w.heap.size 99 (obj0 cl proto) ∧ Touch (AFoot A cv fv rv) w w' ∧ ∃ cv' fv' rv', HpAt w' B h A cv' fv' rv' ⟨d.cells ++ [some (40, w.heap.size)], [], d.count + 1, d.roots⟩ ∧ ∀ k, AFoot A cv' fv' rv' k → AFoot A cv fv rv k ∨ w.heap.size ≤ k := by
  have bb : Below w.heap.size w (w.alloc (.cells (obj0 cl proto) 99)) := (Below.refl _ _).alloc (Nat.le_refl _) _
  have bx := Box.new w 99 (obj0 cl proto)
  have a1 := hp.ar.on bb
  have HM := Veil.mk (make_new B A cv fv rv d (40, w.heap.size) _ a1 hf (by omega) hl)
  have h0 : (w.alloc (.cells (obj0 cl proto) 99)).cell? ⟨h, 0, none⟩ = some (.pointer (some ⟨A, 0, none⟩)) := (hp.hb.below bb).at_ 0
  have HP := Veil.mk (And.intro hp (And.intro bb (And.intro bx (And.intro a1 hf))))
  have hl0 : (0 : Int) ≤ (d.cells.length : Int) := by omega
  have hne : ((d.cells.length : Int) + 1 = 0) = False := by simp; omega
  clear hp bb bx a1 hf
  go_enter Tryz.func13, Tryz.ntmps13
  have em : d.mk2 (40, w.heap.size) = (⟨d.cells ++ [some (40, w.heap.size)], d.free, d.count + 1, d.roots⟩, d.cells.length + 1) := by
    unfold AD.mk2
    rw [HP.out.2.2.2.2]
    rfl
  have HM2 : Veil (Calls Tryz.prog 33 #[.pointer (some ⟨A, 0, none⟩), nodeV (40, w.heap.size)] (w.alloc (.cells (obj0 cl proto) 99)) fun e w' => e = .returned (.int .i64 ((d.cells.length : Int) + 1)) ∧ ArPost B A ⟨d.cells ++ [some (40, w.heap.size)], d.free, d.count + 1, d.roots⟩ (AFoot A cv fv rv) (w.alloc (.cells (obj0 cl proto) 99)) w') := ⟨by
    refine HM.out.mono ?_
    rintro e w' ⟨h1, h2⟩
    rw [em] at h1 h2
    exact ⟨h1, h2⟩⟩
  clear HM em
  go_upto_region 4 with (fail)
  go_wp2_with (first | (go_at_call 33; ((with_reducible refine HM2.out.mono ?_); rintro e w4 ⟨rfl, hp4⟩)))
  obtain ⟨hp, bb, bx, a1, hf⟩ := HP.out
  obtain ⟨cv4, fv4, rv4, p1, p2, p3⟩ := hp4
  rw [hf] at p1
  refine bodyPost_ret (v := .tuple #[.int .i64 ((d.cells.length : Int) + 1), .pointer (some ⟨w.heap.size, 0, none⟩)]) (by simp [results, Tryz.results13, go_sem]) rfl ⟨rfl, bx.touch p2 (AFoot.lab a1 bx.lab (by decide) (by decide) (by decide)), (Touch.of_below bb).trans p2, cv4, fv4, rv4, ⟨(hp.hb.below bb).touch p2 (AFoot.lab a1 (hp.hb.below bb).lab (by decide) (by decide) (by decide)), p1, hp.hB⟩, fun k hk => (p3 k hk).imp id (fun h => by rw [World.size_alloc] at h; omega)⟩
end Go.Proofs.YtgdkjkfbknbgkaaGreatDoor
/- Package heap: Obj; isLength, element, Own of an object that is no array. -/
namespace Go.Proofs.YtgdkjkfbknbgkaaGreatDoor
open Go Go.RowKit

/-- An object's cells: its class, prototype, whether it is closed, its properties and elements. -/
abbrev objF (cl proto : Int) (cs : Bool) (pv ev fn : Value) (kd : Int) : Array Value := #[.int .i64 cl, .int .i64 proto, .bool cs, pv, ev, .slice none 0 0, .pointer none, .pointer none, .pointer none, .slice none 0 0, fn, .int .i64 0, .int .i64 0, .int .i64 kd, .int .i64 0, .nilIface]
abbrev objC (cl proto : Int) (cs : Bool) (pv ev : Value) : Array Value := objF cl proto cs pv ev .nilIface 0
theorem as_yes (nb : Nat) (W : World) : (Instr.typeAssert (.iface 40 (.pointer (some ⟨nb, 0, none⟩))) 137 40 true).run Tryz.prog W = .ok (.tuple #[.pointer (some ⟨nb, 0, none⟩), .bool true]) W := by kernel_rfl
set_option maxRecDepth 100000 in
theorem obj_some {w : World} {B h A : Nat} {cv fv rv : Value} {d : AD} (hp : HpAt w B h A cv fv rv d) (r : Int) (nb : Nat) (hr : d.get r = some (40, nb)) : Calls Tryz.prog 26 #[.pointer (some ⟨h, 0, none⟩), .int .i64 r] w fun e w' => e = .returned (.pointer (some ⟨nb, 0, none⟩)) ∧ w' = w := by
  have hg := get_any B A cv fv rv d r w hp.ar
  rw [hr] at hg
  have HG := Veil.mk hg
  have h0 : w.cell? ⟨h, 0, none⟩ = some (.pointer (some ⟨A, 0, none⟩)) := hp.hb.at_ 0
  clear hp hr hg
  have ha := as_yes nb
  go_enter Tryz.func26, Tryz.ntmps26
  go_wp2_with (first | (go_at_call 58; ((with_reducible refine HG.out.mono ?_); rintro e w4 ⟨rfl, h4⟩; subst w4; simp only [bodyV])))
  go_ret
  exact ⟨rfl, rfl⟩
end Go.Proofs.YtgdkjkfbknbgkaaGreatDoor
