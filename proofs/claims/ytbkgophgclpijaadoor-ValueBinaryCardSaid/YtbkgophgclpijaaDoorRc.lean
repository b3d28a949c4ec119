/- CodeRight: what its blocks are and how they stay. -/
import Derived.Test.YtbkgophgclpijaaDoorRb
import Derived.Deep.AppendLies
import Derived.Laws.MakeOwn
import Derived.Laws.Rows
import Derived.Deep.CutBlock
namespace Go.Proofs.YtbkgophgclpijaaDoor
open Go.RowKit

/-- A block that is known whole. -/
def Box (w : World) (g : Nat) (t : TypeId) (cs : Array Value) : Prop := w.heap[g]? = some (.cells cs t (0, 0))
section
variable {w w' : World} {g : Nat} {t : TypeId} {cs : Array Value}
theorem Box.lt (h : Box w g t cs) : g < w.heap.size := (Array.getElem?_eq_some_iff.1 h).1
theorem Box.at_ (h : Box w g t cs) (i : Nat) : w.cell? ⟨g, i, none⟩ = cs[i]? := cell_of_row w g i cs t (0, 0) h
theorem Box.free (h : Box w g t cs) (i : Nat) : w.frozen? ⟨g, i, none⟩ = false := by
  have h' : w.heap[g]? = some (.cells cs t (0, 0)) := h
  simp [World.frozen?, h']
theorem Box.new (w : World) (t : TypeId) (cs : Array Value) : Box (w.alloc (.cells cs t)) w.heap.size t cs := by
  show (w.heap.push _)[w.heap.size]? = _
  simp
theorem Box.on {B : Nat} (h : Box w g t cs) (hb : Below B w w') (hg : g < B) : Box w' g t cs := (hb.block g hg).trans h
theorem Box.more (h : Box w g t cs) (o : Obj) : Box (w.alloc o) g t cs := (Below.heap_alloc w o g h.lt).trans h
theorem Box.grown {row : Option Nat} (h : Box w g t cs) (hb : w.grownBy w' row) (hg : some g ≠ row) : Box w' g t cs := (hb.block g h.lt hg).trans h
theorem Box.put (h : Box w g t cs) (i : Nat) (u : Value) : Box (w.setCell ⟨g, i, none⟩ u) g t (cs.setIfInBounds i u) := by
  have h' : w.heap[g]? = some (.cells cs t (0, 0)) := h
  show (w.heap.modify g _)[g]? = _
  simp [Array.getElem?_modify, h']
theorem Box.other {g2 : Nat} {t2 : TypeId} {cs2 : Array Value} (h : Box w g t cs) (h2 : Box w g2 t2 cs2) (hne : t ≠ t2) : g ≠ g2 := by
  intro e
  subst e
  have := (show w.heap[g]? = some (.cells cs t (0, 0)) from h).symm.trans h2
  injection this with this
  injection this with _ ht
  exact hne ht
theorem Box.apart {base : Nat} {e : TypeId} {size n : Nat} {v : Value} {xs : List Value} (h : Box w g t cs) (ho : w.ownsRow base e size v n xs) (hne : t ≠ e) : some g ≠ v.ownBlock := by
  intro he
  rcases ho.2 with ⟨rfl, _⟩ | ⟨g2, cap, cur, rfl, _, hh, _⟩
  · simp [Value.ownBlock] at he
  · have e2 : g = g2 := by simpa [Value.ownBlock] using he
    subst e2
    exact Box.other (g2 := g) h hh hne rfl
end

/-- Nothing that lay there has changed but block g. -/
def Only (a w : World) (g : Nat) : Prop := a.grownBy w (some g)
section
variable {a w w' : World} {g : Nat}
theorem Only.refl (w : World) (g : Nat) : Only w w g := World.grownBy.refl w _
theorem Only.alloc (h : Only a w g) (o : Obj) : Only a (w.alloc o) g := ⟨h.os, h.tape, h.output, Nat.le_trans h.size (by simp), fun i hi hne => (Below.heap_alloc w o i (Nat.lt_of_lt_of_le hi h.size)).trans (h.block i hi hne)⟩
theorem Only.drewN (h : Only a w g) (n : Nat) : Only a (w.drewN n) g := ⟨h.os, h.tape, h.output, h.size, h.block⟩
theorem Only.drew (h : Only a w g) : Only a w.drew g := ⟨h.os, h.tape, h.output, h.size, h.block⟩
theorem Only.put (h : Only a w g) (i : Nat) (u : Value) : Only a (w.setCell ⟨g, i, none⟩ u) g :=
  ⟨h.os, h.tape, h.output, by simpa [World.setCell] using h.size, fun k hk hne => (Below.heap_setCell w ⟨g, i, none⟩ u k (fun e => hne (by rw [e]))).trans (h.block k hk hne)⟩
theorem Only.grown {row : Option Nat} (h : Only a w g) (hg : w.grownBy w' row) (hr : ∀ k, row = some k → a.heap.size ≤ k) : Only a w' g :=
  ⟨hg.os.trans h.os, hg.tape.trans h.tape, hg.output.trans h.output, Nat.le_trans h.size hg.size, fun k hk hne => (hg.block k (Nat.lt_of_lt_of_le hk h.size) (fun e => by have := hr k e.symm; omega)).trans (h.block k hk hne)⟩
theorem Only.below {B : Nat} (h : Only a w g) (hB : B ≤ g) (hs : B ≤ a.heap.size) : Below B a w := ⟨h.os, h.tape, h.output, h.size, fun k hk => h.block k (by omega) (fun e => by injection e with e; omega)⟩
end
theorem grownBy_of_below {w w' : World} (h : Below w.heap.size w w') (row : Option Nat) : w.grownBy w' row := ⟨h.os, h.tape, h.output, h.size, fun i hi _ => h.block i hi⟩

/-- The cells of a function's code, all but its lists empty. -/
abbrev fcells (v8 v9 v10 : Value) : Array Value := #[.string ⟨#[]⟩, .int .i64 0, .int .i64 0, .bool false, .bool false, .bool false, .bool false, .bool false, v8, v9, v10]
/-- A function that only returns. -/
def Leaf (w : World) (b bi : Nat) : Prop := Box w b 53 (fcells (.slice (some ⟨bi, 0, none⟩) 1 1) (.slice none 0 0) (.slice none 0 0)) ∧ Box w bi 61 #[.int .i64 61, .int .i64 0, .int .i64 0]
theorem Leaf.on {w w' : World} {b bi : Nat} (h : Leaf w b bi) (hb : Below w.heap.size w w') : Leaf w' b bi := ⟨h.1.on hb h.1.lt, h.2.on hb h.2.lt⟩
theorem Leaf.right {w : World} {b bi : Nat} (h : Leaf w b bi) : Calls Tryd.prog 33 #[.pointer (some ⟨b, 0, none⟩)] w fun e w' => e = .returned (.bool true) ∧ Below w.heap.size w w' := by
  have hI : w.cell? ⟨b, 8, none⟩ = some (.slice (some ⟨bi, 0, none⟩) 1 1) := h.1.at_ 8
  have hC : w.cell? ⟨b, 9, none⟩ = some (.slice none 0 0) := h.1.at_ 9
  have hF : w.cell? ⟨b, 10, none⟩ = some (.slice none 0 0) := h.1.at_ 10
  have hL : Ins3 w (some ⟨bi, 0, none⟩) 1 [(61, 0, 0)] := ⟨rfl, fun _ => ⟨bi, 0, rfl, h.2.lt, fun i x hx => by
    rcases i with _ | i
    · simp at hx; subst hx; exact ⟨h.2.at_ 0, h.2.at_ 1, h.2.at_ 2⟩
    · simp at hx⟩⟩
  have hS : Subs w none 0 [] := ⟨rfl, fun h0 => absurd h0 (by omega)⟩
  exact (right_f b [(61, 0, 0)] 1 0 0 [] _ none none 1 0 0 (by omega) (by omega) w hI hC hF hL hS).mono fun _ _ he => ⟨he.1, he.2⟩

theorem Tryd.info63 : (Tryd.prog.info? 63).map (fun i => (i.zero, i.size, i.bytes)) = some (some (.pointer none), 1, 8) := by kernel_rfl
theorem Tryd.info61 : (Tryd.prog.info? 61).map (fun i => (i.zero, i.size, i.bytes)) = some (some (.agg #[.int .i64 0, .int .i64 0, .int .i64 0]), 3, 24) := by kernel_rfl
theorem Tryd.info27 : (Tryd.prog.info? 27).map (fun i => (i.zero, i.size, i.bytes)) = some (some (.agg #[.int .i64 0, .int .i64 0, .string ⟨#[]⟩]), 3, 32) := by kernel_rfl

theorem tmod_bd (n m : Int) (h : 0 < m) : -m < n.tmod m ∧ n.tmod m < m := by
  rcases Int.le_total 0 n with hn | hn
  · rw [Int.tmod_eq_emod_of_nonneg hn]
    have := Int.emod_nonneg n (by omega : m ≠ 0)
    have := Int.emod_lt_of_pos n h
    omega
  · have e : n.tmod m = -((-n) % m) := by rw [← Int.tmod_eq_emod_of_nonneg (by omega : 0 ≤ -n), Int.neg_tmod, Int.neg_neg]
    have := Int.emod_nonneg (-n) (by omega : m ≠ 0)
    have := Int.emod_lt_of_pos (-n) h
    omega
theorem rem_nat (n : Int) (m : Nat) (h : 0 < m) : ∃ r : Nat, r < m ∧ (n.tmod (m : Int) + (m : Int)).tmod (m : Int) = (r : Int) ∧ (n.tmod (m : Int) + (m : Int)) % (m : Int) = (r : Int) ∧ 0 < n.tmod (m : Int) + (m : Int) ∧ n.tmod (m : Int) < (m : Int) := by
  have hb := tmod_bd n m (by omega)
  have hE : (n.tmod (m : Int) + (m : Int)).tmod (m : Int) = (n.tmod (m : Int) + (m : Int)) % (m : Int) := Int.tmod_eq_emod_of_nonneg (by omega)
  have h0 := Int.emod_nonneg (n.tmod (m : Int) + (m : Int)) (by omega : (m : Int) ≠ 0)
  have h1 := Int.emod_lt_of_pos (n.tmod (m : Int) + (m : Int)) (by omega : (0 : Int) < (m : Int))
  refine ⟨((n.tmod (m : Int) + (m : Int)) % (m : Int)).toNat, by omega, by rw [hE]; omega, by omega, by omega, hb.2⟩


theorem cells_new (w : World) (cs : List Value) (t : TypeId) : ∀ j u, cs[j]? = some u → (w.alloc (.cells cs.toArray t)).cell? ((⟨w.heap.size, 0, none⟩ : Addr).add j) = some u := by
  intro j u hj
  have : ((⟨w.heap.size, 0, none⟩ : Addr).add j) = ⟨w.heap.size, j, none⟩ := by
    unfold Addr.add; split
    · simp [*]
    · simp
  rw [this]
  simp [hj]
theorem one_new (w : World) (v : Value) (t : TypeId) (n : Nat) (hn : w.heap.size = n) : ∀ j u, [v][j]? = some u → (w.alloc (.cells #[v] t)).cell? ((⟨n, 0, none⟩ : Addr).add j) = some u := by subst hn; exact cells_new w [v] t
theorem three_new (w : World) (x y z : Value) (t : TypeId) (n : Nat) (hn : w.heap.size = n) : ∀ j u, [x, y, z][j]? = some u → (w.alloc (.cells #[x, y, z] t)).cell? ((⟨n, 0, none⟩ : Addr).add j) = some u := by subst hn; exact cells_new w [x, y, z] t
theorem ptrs_snoc (ps : List (Nat × Nat)) (q : Nat × Nat) : (ps ++ [q]).map (fun p => Value.pointer (some ⟨p.1, 0, none⟩)) = ps.map (fun p => Value.pointer (some ⟨p.1, 0, none⟩)) ++ [Value.pointer (some ⟨q.1, 0, none⟩)] := by simp
theorem Leaf.grown {w w' : World} {b bi : Nat} {row : Option Nat} (h : Leaf w b bi) (hb : w.grownBy w' row) (h1 : some b ≠ row) (h2 : some bi ≠ row) : Leaf w' b bi := ⟨h.1.grown hb h1, h.2.grown hb h2⟩
theorem Leaf.new (w : World) : Leaf ((w.alloc (.cells #[.int .i64 61, .int .i64 0, .int .i64 0] 61)).alloc (.cells (fcells (.slice (some ⟨w.heap.size, 0, none⟩) 1 1) (.slice none 0 0) (.slice none 0 0)) 53)) (w.heap.size + 1) w.heap.size :=
  ⟨by have := Box.new (w.alloc (.cells #[.int .i64 61, .int .i64 0, .int .i64 0] 61)) 53 (fcells (.slice (some ⟨w.heap.size, 0, none⟩) 1 1) (.slice none 0 0) (.slice none 0 0)); simpa using this,
   (Box.new w 61 #[.int .i64 61, .int .i64 0, .int .i64 0]).on ((Below.refl (w.heap.size + 1) _).alloc (by simp) _) (by omega)⟩
theorem put_cells10 (v8 v9 v10 u : Value) : (fcells v8 v9 v10).setIfInBounds 10 u = fcells v8 v9 u := rfl
theorem put_cells8 (v8 v9 v10 u : Value) : (fcells v8 v9 v10).setIfInBounds 8 u = fcells u v9 v10 := rfl

abbrev leafIns : Obj := .cells #[.int .i64 61, .int .i64 0, .int .i64 0] 61
abbrev leafFn (n : Nat) : Obj := .cells (fcells (.slice (some ⟨n, 0, none⟩) 1 1) (.slice none 0 0) (.slice none 0 0)) 53
theorem round1 {w wr w3 : World} {F i g cap : Nat} {v9 v10 : Value} {ps : List (Nat × Nat)} {b : Nat} (hFlo : w.heap.size ≤ F) (hbox : Box wr F 53 (fcells (.slice none 0 0) v9 v10))
    (hown : wr.ownsRow w.heap.size 63 1 v10 i (ps.map fun p => Value.pointer (some ⟨p.1, 0, none⟩))) (hleaf : ∀ p ∈ ps, Leaf wr p.1 p.2 ∧ F < p.1) (hbw : Below w.heap.size w wr) (hb : b = wr.heap.size + 1)
    (hown3 : w3.ownsRow w.heap.size 63 1 (.slice (some ⟨g, 0, none⟩) (i + 1) cap) (i + 1) ((ps.map fun p => Value.pointer (some ⟨p.1, 0, none⟩)) ++ [.pointer (some ⟨b, 0, none⟩)]))
    (hgrow : (((wr.alloc leafIns).alloc (leafFn wr.heap.size)).alloc (.cells #[.pointer (some ⟨b, 0, none⟩)] 63)).grownBy w3 v10.ownBlock) :
    Box (w3.setCell ⟨F, 10, none⟩ (.slice (some ⟨g, 0, none⟩) (i + 1) cap)) F 53 (fcells (.slice none 0 0) v9 (.slice (some ⟨g, 0, none⟩) (i + 1) cap)) ∧
    (w3.setCell ⟨F, 10, none⟩ (.slice (some ⟨g, 0, none⟩) (i + 1) cap)).ownsRow w.heap.size 63 1 (.slice (some ⟨g, 0, none⟩) (i + 1) cap) (i + 1) ((ps ++ [(b, wr.heap.size)]).map fun p => Value.pointer (some ⟨p.1, 0, none⟩)) ∧
    (∀ p ∈ ps ++ [(b, wr.heap.size)], Leaf (w3.setCell ⟨F, 10, none⟩ (.slice (some ⟨g, 0, none⟩) (i + 1) cap)) p.1 p.2 ∧ F < p.1) ∧
    Below w.heap.size w (w3.setCell ⟨F, 10, none⟩ (.slice (some ⟨g, 0, none⟩) (i + 1) cap)) := by
  have hF := hbox.lt
  have hx3 := (((hbox.more leafIns).more (leafFn wr.heap.size)).more (.cells #[.pointer (some ⟨b, 0, none⟩)] 63)).grown hgrow (hbox.apart hown (by decide))
  have ho : w3.grownBy (w3.setCell ⟨F, 10, none⟩ (.slice (some ⟨g, 0, none⟩) (i + 1) cap)) (some F) := (Only.refl w3 F).put 10 _
  have hbw3 : Below w.heap.size w (((wr.alloc leafIns).alloc (leafFn wr.heap.size)).alloc (.cells #[.pointer (some ⟨b, 0, none⟩)] 63)) := ((hbw.alloc hbw.size _).alloc (by have := hbw.size; simp; omega) _).alloc (by have := hbw.size; simp; omega) _
  have hB3 : Below w.heap.size w w3 := Below.grown hbw3 hgrow hbw3.size (fun j hj => (hown.lt _ hj).1)
  have hlf : ∀ b1 b2, Leaf (((wr.alloc leafIns).alloc (leafFn wr.heap.size)).alloc (.cells #[.pointer (some ⟨b, 0, none⟩)] 63)) b1 b2 → F < b1 → Leaf (w3.setCell ⟨F, 10, none⟩ (.slice (some ⟨g, 0, none⟩) (i + 1) cap)) b1 b2 := fun b1 b2 h hlt => by
    have hown4 := ((hown.alloc leafIns).alloc (leafFn wr.heap.size)).alloc (.cells #[.pointer (some ⟨b, 0, none⟩)] 63)
    have h2 := h.grown hgrow (h.1.apart hown4 (by decide)) (h.2.apart hown4 (by decide))
    exact h2.grown ho (fun e => by injection e with e; omega) (fun e => by injection e with e; exact Box.other h2.2 hx3 (by decide) e)
  refine ⟨hx3.put 10 _, ?_, ?_, hB3.setCell (p := ⟨F, 10, none⟩) hFlo _⟩
  · rw [ptrs_snoc]
    exact hown3.kept ho (.inr (fun e => hx3.apart hown3 (by decide) e.symm))
  · intro p hp
    rcases List.mem_append.1 hp with hp | hp
    · obtain ⟨h1, h2⟩ := hleaf p hp
      refine ⟨hlf _ _ ?_ h2, h2⟩
      exact ⟨((h1.1.more _).more _).more _, ((h1.2.more _).more _).more _⟩
    · obtain rfl : p = (b, wr.heap.size) := by simpa using hp
      have hl := Leaf.new wr
      rw [← hb] at hl
      exact ⟨hlf _ _ ⟨hl.1.more _, hl.2.more _⟩ (by simp only; omega), by simp only; omega⟩

def flat (l : List (Int × Int × Int)) : List Value := l.flatMap fun x => [.int .i64 x.1, .int .i64 x.2.1, .int .i64 x.2.2]
theorem flat_snoc (l : List (Int × Int × Int)) (o p q : Int) : flat (l ++ [(o, p, q)]) = flat l ++ [.int .i64 o, .int .i64 p, .int .i64 q] := by simp [flat]
theorem take_snoc {l : List (Int × Int × Int)} {j : Nat} {x : Int × Int × Int} (h : l[j]? = some x) : l.take (j + 1) = l.take j ++ [x] := by
  rw [List.take_add_one, h]; rfl
theorem rightL_snoc (n c k : Nat) (l : List (Int × Int × Int)) (o p q : Int) : rightL n c k (l ++ [(o, p, q)]) = (rightL n c k l && rightI n c k o p q) := by simp [rightL]

theorem round2 {W2 wr w3 : World} {F j g cap : Nat} {v8 v9 v10 : Value} {l : List (Int × Int × Int)} {o p q : Int} (hbox : Box wr F 53 (fcells v8 v9 v10))
    (hown : wr.ownsRow W2.heap.size 61 3 v8 j (flat l)) (ho : Only W2 wr F)
    (hown3 : w3.ownsRow W2.heap.size 61 3 (.slice (some ⟨g, 0, none⟩) (j + 1) cap) (j + 1) (flat l ++ [.int .i64 o, .int .i64 p, .int .i64 q]))
    (hgrow : ((wr.alloc (.cells #[.int .i64 o, .int .i64 p, .int .i64 q] 58)).alloc (.cells #[.int .i64 o, .int .i64 p, .int .i64 q] 61)).grownBy w3 v8.ownBlock) :
    Box (w3.setCell ⟨F, 8, none⟩ (.slice (some ⟨g, 0, none⟩) (j + 1) cap)) F 53 (fcells (.slice (some ⟨g, 0, none⟩) (j + 1) cap) v9 v10) ∧
    (w3.setCell ⟨F, 8, none⟩ (.slice (some ⟨g, 0, none⟩) (j + 1) cap)).ownsRow W2.heap.size 61 3 (.slice (some ⟨g, 0, none⟩) (j + 1) cap) (j + 1) (flat (l ++ [(o, p, q)])) ∧
    Only W2 (w3.setCell ⟨F, 8, none⟩ (.slice (some ⟨g, 0, none⟩) (j + 1) cap)) F ∧
    Box (w3.setCell ⟨F, 8, none⟩ (.slice (some ⟨g, 0, none⟩) (j + 1) cap)) wr.heap.size 58 #[.int .i64 o, .int .i64 p, .int .i64 q] := by
  have hx3 := ((hbox.more (.cells #[.int .i64 o, .int .i64 p, .int .i64 q] 58)).more (.cells #[.int .i64 o, .int .i64 p, .int .i64 q] 61)).grown hgrow (hbox.apart hown (by decide))
  have hp : w3.grownBy (w3.setCell ⟨F, 8, none⟩ (.slice (some ⟨g, 0, none⟩) (j + 1) cap)) (some F) := (Only.refl w3 F).put 8 _
  have hown2 := (hown.alloc (.cells #[.int .i64 o, .int .i64 p, .int .i64 q] 58)).alloc (.cells #[.int .i64 o, .int .i64 p, .int .i64 q] 61)
  have hb := (Box.new wr 58 #[.int .i64 o, .int .i64 p, .int .i64 q]).more (.cells #[.int .i64 o, .int .i64 p, .int .i64 q] 61)
  have hb3 := hb.grown hgrow (hb.apart hown2 (by decide))
  refine ⟨hx3.put 8 _, ?_, ?_, hb3.grown hp (fun e => by injection e with e; exact Box.other hb3 hx3 (by decide) e)⟩
  · rw [flat_snoc]
    exact hown3.kept hp (.inr (fun e => hx3.apart hown3 (by decide) e.symm))
  · exact (((ho.alloc _).alloc _).grown hgrow (fun k hk => (hown.lt k hk).1)).put 8 _
/-- What Right must know of a function. -/
def FuncAt (w : World) (F : Nat) (l : List (Int × Int × Int)) (n c k : Nat) : Prop :=
  n ≤ 1000 ∧ k ≤ 1000 ∧ ∃ (ai ac af : Option Addr) (ci cc cf : Nat), w.cell? ⟨F, 8, none⟩ = some (.slice ai n ci) ∧ w.cell? ⟨F, 9, none⟩ = some (.slice ac c cc) ∧ w.cell? ⟨F, 10, none⟩ = some (.slice af k cf) ∧ Ins3 w ai n l ∧ Subs w af k (List.replicate k true)
theorem FuncAt.on {w w' : World} {F : Nat} {l : List (Int × Int × Int)} {n c k : Nat} (h : FuncAt w F l n c k) (hb : Below w.heap.size w w') : FuncAt w' F l n c k := by
  obtain ⟨h1, h2, ai, ac, af, ci, cc, cf, a, b, d, e, f⟩ := h
  exact ⟨h1, h2, ai, ac, af, ci, cc, cf, cell_later hb a (Nat.le_refl _), cell_later hb b (Nat.le_refl _), cell_later hb d (Nat.le_refl _), e.on hb, f.on hb⟩
theorem all_rep (k : Nat) : (List.replicate k true).all id = true := by simp
theorem FuncAt.right {w : World} {F : Nat} {l : List (Int × Int × Int)} {n c k : Nat} (h : FuncAt w F l n c k) :
    Calls Tryd.prog 33 #[.pointer (some ⟨F, 0, none⟩)] w fun e w' => e = .returned (.bool (rightF l c k)) ∧ Below w.heap.size w w' := by
  obtain ⟨h1, h2, ai, ac, af, ci, cc, cf, a, b, d, e, f⟩ := h
  exact (right_f F l n c k _ ai ac af ci cc cf h1 h2 w a b d e f).mono fun _ _ he => ⟨by rw [he.1, all_rep, Bool.and_true], he.2⟩
theorem own_slice {w : World} {base : Nat} {e : TypeId} {size : Nat} {v : Value} {n : Nat} {xs : List Value} (h : w.ownsRow base e size v n xs) :
    ∃ a ca, v = .slice a n ca ∧ (0 < n → ∃ g, a = some ⟨g, 0, none⟩ ∧ base ≤ g ∧ g < w.heap.size ∧ (∃ cur, Box w g e cur) ∧ ∀ j u, xs[j]? = some u → w.cell? ⟨g, j, none⟩ = some u) := by
  rcases h.2 with ⟨rfl, h0⟩ | ⟨g, cap, cur, rfl, h1, h2, -⟩
  · exact ⟨none, 0, by rw [h0], fun hn => absurd hn (by omega)⟩
  · refine ⟨_, _, rfl, fun _ => ⟨g, rfl, h1, (Array.getElem?_eq_some_iff.1 h2).1, ⟨cur, h2⟩, fun j u hu => ?_⟩⟩
    have := h.cells (g := g) rfl j u hu
    have e : (⟨g, 0, none⟩ : Addr).add j = ⟨g, j, none⟩ := by unfold Addr.add; split <;> simp_all
    rw [e] at this
    exact this

theorem flat_at {l : List (Int × Int × Int)} : ∀ {i : Nat} {x : Int × Int × Int}, l[i]? = some x → (flat l)[i * 3]? = some (.int .i64 x.1) ∧ (flat l)[i * 3 + 1]? = some (.int .i64 x.2.1) ∧ (flat l)[i * 3 + 2]? = some (.int .i64 x.2.2) := by
  induction l with
  | nil => intro i x h; simp at h
  | cons a l ih =>
    intro i x h
    rcases i with _ | i
    · simp at h; subst h; simp [flat]
    · have h2 : l[i]? = some x := by simpa using h
      obtain ⟨h3, h4, h5⟩ := ih h2
      have e : flat (a :: l) = [.int .i64 a.1, .int .i64 a.2.1, .int .i64 a.2.2] ++ flat l := by simp [flat]
      refine ⟨?_, ?_, ?_⟩
      · rw [e, List.getElem?_append_right (by simp; omega)]
        simpa [show (i + 1) * 3 - 3 = i * 3 by omega] using h3
      · rw [e, List.getElem?_append_right (by simp; omega)]
        simpa [show (i + 1) * 3 + 1 - 3 = i * 3 + 1 by omega] using h4
      · rw [e, List.getElem?_append_right (by simp; omega)]
        simpa [show (i + 1) * 3 + 2 - 3 = i * 3 + 2 by omega] using h5
theorem funcAt_of {w W2 wr : World} {F n c k : Nat} {v8 v9 v10 : Value} {l : List (Int × Int × Int)} {ps : List (Nat × Nat)} {a9 : Option Addr} (hn : n ≤ 1000) (hk : k ≤ 1000) (hln : l.length = n) (hbox : Box wr F 53 (fcells v8 v9 v10)) (hown : wr.ownsRow W2.heap.size 61 3 v8 n (flat l))
    (h9 : v9 = .slice a9 c c) (hown2 : W2.ownsRow w.heap.size 63 1 v10 k (ps.map fun p => Value.pointer (some ⟨p.1, 0, none⟩))) (hleaf : ∀ p ∈ ps, Leaf W2 p.1 p.2 ∧ F < p.1) (hps : ps.length = k)
    (hbox2 : Box W2 F 53 (fcells (.slice none 0 0) v9 v10)) (ho : Only W2 wr F) : FuncAt wr F l n c k := by
  obtain ⟨ai, ci, e8, h8⟩ := own_slice hown
  obtain ⟨af, cf, e10, h10⟩ := own_slice hown2
  subst e8 e10 h9
  refine ⟨hn, hk, ai, a9, af, ci, c, cf, hbox.at_ 8, hbox.at_ 9, hbox.at_ 10, ⟨hln, fun h0 => ?_⟩, ⟨by simp, fun h0 => ?_⟩⟩
  · obtain ⟨g, rfl, _, hlt, _, hc⟩ := h8 h0
    refine ⟨g, 0, rfl, hlt, fun i x hx => ?_⟩
    obtain ⟨h1, h2, h3⟩ := flat_at hx
    have h1' := hc _ _ h1
    have h2' := hc _ _ h2
    have h3' := hc _ _ h3
    refine ⟨?_, ?_, ?_⟩
    · rw [Nat.zero_add]; exact h1'
    · rw [Nat.zero_add]; exact h2'
    · rw [Nat.zero_add]; exact h3'
  · obtain ⟨g, rfl, _, hlt, ⟨cur, hcur⟩, hc⟩ := h10 h0
    refine ⟨g, 0, rfl, Nat.lt_of_lt_of_le hlt ho.size, fun i x hx => ?_⟩
    have hik : i < k := by
      rcases Nat.lt_or_ge i k with h | h
      · exact h
      · rw [List.getElem?_eq_none (by simpa using h)] at hx; cases hx
    have hxt : x = true := by
      rw [List.getElem?_replicate, if_pos hik] at hx
      injection hx with hx; exact hx.symm
    subst hxt
    obtain ⟨p, hp⟩ : ∃ p, ps[i]? = some p := ⟨_, List.getElem?_eq_getElem (by omega)⟩
    have hcell := hc i (.pointer (some ⟨p.1, 0, none⟩)) (by simp [hp])
    obtain ⟨hl, hlt2⟩ := hleaf p (List.mem_of_getElem? hp)
    have hne : g ≠ F := Box.other hcur hbox2 (by decide)
    have hl2 : Leaf wr p.1 p.2 := hl.grown ho (fun e => by injection e with e; omega) (fun e => by injection e with e; exact Box.other hl.2 hbox2 (by decide) e)
    refine ⟨_, ?_, fun wx hx => (hl2.on hx).right⟩
    rw [Nat.zero_add]
    exact World.grownBy.cell ho hcell (fun e => by injection e with e; exact hne e)

/-- A function that only returns, with one inner function: it is right just if that one is. -/
theorem wrap_right (w : World) (F : Nat) (B : Bool) (hg : ∀ wx, Below w.heap.size w wx → Calls Tryd.prog 33 #[.pointer (some ⟨F, 0, none⟩)] wx fun e w'' => e = .returned (.bool B) ∧ Below wx.heap.size wx w'') :
    Calls Tryd.prog 33 #[.pointer (some ⟨w.heap.size + 1 + 1, 0, none⟩)] (((w.alloc leafIns).alloc (.cells #[.pointer (some ⟨F, 0, none⟩)] 63)).alloc (.cells (fcells (.slice (some ⟨w.heap.size, 0, none⟩) 1 1) (.slice none 0 0) (.slice (some ⟨w.heap.size + 1, 0, none⟩) 1 1)) 53))
      fun e w' => e = .returned (.bool B) ∧ Below w.heap.size w w' := by
  obtain ⟨W, hW⟩ : ∃ W, W = ((w.alloc leafIns).alloc (.cells #[.pointer (some ⟨F, 0, none⟩)] 63)).alloc (.cells (fcells (.slice (some ⟨w.heap.size, 0, none⟩) 1 1) (.slice none 0 0) (.slice (some ⟨w.heap.size + 1, 0, none⟩) 1 1)) 53) := ⟨_, rfl⟩
  have b1 : Box W w.heap.size 61 #[.int .i64 61, .int .i64 0, .int .i64 0] := by rw [hW]; exact ((Box.new w _ _).more _).more _
  have b2 : Box W (w.heap.size + 1) 63 #[.pointer (some ⟨F, 0, none⟩)] := by
    rw [hW]
    have := (Box.new (w.alloc leafIns) 63 #[.pointer (some ⟨F, 0, none⟩)]).more (.cells (fcells (.slice (some ⟨w.heap.size, 0, none⟩) 1 1) (.slice none 0 0) (.slice (some ⟨w.heap.size + 1, 0, none⟩) 1 1)) 53)
    simpa using this
  have b3 : Box W (w.heap.size + 2) 53 (fcells (.slice (some ⟨w.heap.size, 0, none⟩) 1 1) (.slice none 0 0) (.slice (some ⟨w.heap.size + 1, 0, none⟩) 1 1)) := by
    rw [hW]
    have := Box.new ((w.alloc leafIns).alloc (.cells #[.pointer (some ⟨F, 0, none⟩)] 63)) 53 (fcells (.slice (some ⟨w.heap.size, 0, none⟩) 1 1) (.slice none 0 0) (.slice (some ⟨w.heap.size + 1, 0, none⟩) 1 1))
    simpa using this
  have hb : Below w.heap.size w W := by rw [hW]; exact (((Below.refl _ _).alloc (Nat.le_refl _) _).alloc (by simp) _).alloc (by simp; omega) _
  rw [← hW]
  have hL : Ins3 W (some ⟨w.heap.size, 0, none⟩) 1 [(61, 0, 0)] := ⟨rfl, fun _ => ⟨w.heap.size, 0, rfl, b1.lt, fun i x hx => by
    rcases i with _ | i
    · simp at hx; subst hx; exact ⟨b1.at_ 0, b1.at_ 1, b1.at_ 2⟩
    · simp at hx⟩⟩
  have hS : Subs W (some ⟨w.heap.size + 1, 0, none⟩) 1 [B] := ⟨rfl, fun _ => ⟨w.heap.size + 1, 0, rfl, b2.lt, fun i x hx => by
    rcases i with _ | i
    · simp at hx; subst hx
      exact ⟨_, b2.at_ 0, fun wx hx => hg wx (hb.trans (hx.mono hb.size))⟩
    · simp at hx⟩⟩
  refine (right_f (w.heap.size + 2) [(61, 0, 0)] 1 0 1 [B] _ none _ 1 0 1 (by omega) (by omega) W (b3.at_ 8) (b3.at_ 9) (b3.at_ 10) hL hS).mono fun e w' he => ⟨?_, hb.trans (he.2.mono hb.size)⟩
  rw [he.1]
  have : (rightF [(61, 0, 0)] 0 1 && [B].all id) = B := by
    have : rightF [(61, 0, 0)] 0 1 = true := by decide
    rw [this]; simp
  rw [this]
end Go.Proofs.YtbkgophgclpijaaDoor
