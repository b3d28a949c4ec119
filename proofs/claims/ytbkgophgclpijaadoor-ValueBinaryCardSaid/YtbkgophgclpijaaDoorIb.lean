/- 'x, y := a.Val(), b.Val()': what holds in whatever order. -/
import Derived.Test.YtbkgophgclpijaaDoorIa
import Derived.Test.YtbkgophgclpijaaDoorEb
import Derived.Test.YtbkgophgclpijaaDoorWe
namespace Go.Proofs.YtbkgophgclpijaaDoor
open Go Go.RowKit

/-- The cells of a value of nothing. -/
abbrev zc : Array Value := #[.int .i64 0, .int .i64 0, .string ⟨#[]⟩]
/-- A box made in the region: empty until its store. -/
def PBox (W1 w : World) (u v : Value) (st : Bool) : Prop := ∃ g, v = .pointer (some ⟨g, 0, none⟩) ∧ W1.heap.size ≤ g ∧
  (st = false → Box w g 27 zc) ∧ (st = true → ∃ k n s, u = W.V k n s ∧ Box w g 27 #[.int .i64 k, .int .i64 n, .string s])
theorem PBox.on {W1 w w' : World} {u v : Value} {st : Bool} (h : PBox W1 w u v st) (hb : Below w.heap.size w w') : PBox W1 w' u v st := by
  obtain ⟨g, h1, h2, h3, h4⟩ := h
  exact ⟨g, h1, h2, fun e => (h3 e).on hb (h3 e).lt, fun e => by obtain ⟨k, n, s, e1, e2⟩ := h4 e; exact ⟨k, n, s, e1, e2.on hb e2.lt⟩⟩
theorem PBox.lt {W1 w : World} {u v : Value} {st : Bool} (h : PBox W1 w u v st) : ∃ g, v = .pointer (some ⟨g, 0, none⟩) ∧ g < w.heap.size := by
  obtain ⟨g, h1, h2, h3, h4⟩ := h
  cases st with
  | false => exact ⟨g, h1, (h3 rfl).lt⟩
  | true => obtain ⟨k, n, s, e1, e2⟩ := h4 rfl; exact ⟨g, h1, e2.lt⟩
/-- In whatever order: b0 to b7 tell which operations are done. -/
def PairI (W1 : World) (sA sB : Value) (b0 b1 b2 b3 b4 b5 b6 b7 : Bool) (u0 u1 u2 u3 u4 u5 : Value) (w : World) : Prop :=
  Below W1.heap.size W1 w ∧ (b0 = true → u0 = sA) ∧ (b2 = true → u2 = sB) ∧ (b1 = true → ∃ k n s, WV k n s ∧ u1 = W.V k n s) ∧ (b3 = true → ∃ k n s, WV k n s ∧ u3 = W.V k n s) ∧
  (b4 = true → PBox W1 w u1 u4 b6) ∧ (b5 = true → PBox W1 w u3 u5 b7) ∧ (b4 = true → b5 = true → u4 ≠ u5) ∧ (b6 = true → b1 = true ∧ b4 = true) ∧ (b7 = true → b3 = true ∧ b5 = true)
section
variable {W1 w w' : World} {sA sB : Value} {b0 b1 b2 b3 b4 b5 b6 b7 : Bool} {u0 u1 u2 u3 u4 u5 : Value}
theorem PairI.start (W1 : World) (sA sB : Value) (u0 u1 u2 u3 u4 u5 : Value) : PairI W1 sA sB false false false false false false false false u0 u1 u2 u3 u4 u5 W1.drew :=
  ⟨(Below.refl _ _).drew, nofun, nofun, nofun, nofun, nofun, nofun, nofun, nofun, nofun⟩
theorem PairI.load0 (h : PairI W1 sA sB b0 b1 b2 b3 b4 b5 b6 b7 u0 u1 u2 u3 u4 u5 w) : PairI W1 sA sB true b1 b2 b3 b4 b5 b6 b7 sA u1 u2 u3 u4 u5 w :=
  ⟨h.1, fun _ => rfl, h.2.2⟩
theorem PairI.load2 (h : PairI W1 sA sB b0 b1 b2 b3 b4 b5 b6 b7 u0 u1 u2 u3 u4 u5 w) : PairI W1 sA sB b0 b1 true b3 b4 b5 b6 b7 u0 u1 sB u3 u4 u5 w :=
  ⟨h.1, h.2.1, fun _ => rfl, h.2.2.2⟩
theorem PairI.call1 (h : PairI W1 sA sB b0 false b2 b3 b4 b5 b6 b7 u0 u1 u2 u3 u4 u5 w) {k n : Int} {s : ByteArray} (hv : WV k n s) (hb : Below w.heap.size w w') :
    PairI W1 sA sB b0 true b2 b3 b4 b5 b6 b7 u0 (W.V k n s) u2 u3 u4 u5 w' := by
  obtain ⟨h1, h2, h3, h4, h5, h6, h7, h8, h9, h10⟩ := h
  have e6 : b6 = false := by cases b6 with | false => rfl | true => exact absurd (h9 rfl).1 (by simp)
  subst e6
  refine ⟨h1.trans (hb.mono h1.size), h2, h3, fun _ => ⟨k, n, s, hv, rfl⟩, h5, fun e => ?_, fun e => (h7 e).on hb, h8, nofun, h10⟩
  obtain ⟨g, p1, p2, p3, p4⟩ := (h6 e).on hb
  exact ⟨g, p1, p2, p3, nofun⟩
theorem PairI.call3 (h : PairI W1 sA sB b0 b1 b2 false b4 b5 b6 b7 u0 u1 u2 u3 u4 u5 w) {k n : Int} {s : ByteArray} (hv : WV k n s) (hb : Below w.heap.size w w') :
    PairI W1 sA sB b0 b1 b2 true b4 b5 b6 b7 u0 u1 u2 (W.V k n s) u4 u5 w' := by
  obtain ⟨h1, h2, h3, h4, h5, h6, h7, h8, h9, h10⟩ := h
  have e7 : b7 = false := by cases b7 with | false => rfl | true => exact absurd (h10 rfl).1 (by simp)
  subst e7
  refine ⟨h1.trans (hb.mono h1.size), h2, h3, h4, fun _ => ⟨k, n, s, hv, rfl⟩, fun e => (h6 e).on hb, fun e => ?_, h8, h9, nofun⟩
  obtain ⟨g, p1, p2, p3, p4⟩ := (h7 e).on hb
  exact ⟨g, p1, p2, p3, nofun⟩
theorem PairI.alloc4 (h : PairI W1 sA sB b0 b1 b2 b3 false b5 b6 b7 u0 u1 u2 u3 u4 u5 w) :
    PairI W1 sA sB b0 b1 b2 b3 true b5 b6 b7 u0 u1 u2 u3 (.pointer (some ⟨w.heap.size, 0, none⟩)) u5 (w.alloc (.cells zc 27)) := by
  obtain ⟨h1, h2, h3, h4, h5, h6, h7, h8, h9, h10⟩ := h
  have e6 : b6 = false := by cases b6 with | false => rfl | true => exact absurd (h9 rfl).2 (by simp)
  subst e6
  have hb : Below w.heap.size w (w.alloc (.cells zc 27)) := (Below.refl _ _).alloc (Nat.le_refl _) _
  refine ⟨h1.trans (hb.mono h1.size), h2, h3, h4, h5, fun _ => ⟨w.heap.size, rfl, h1.size, fun _ => Box.new _ _ _, nofun⟩, fun e => (h7 e).on hb, fun _ e => ?_, nofun, h10⟩
  obtain ⟨g, p1, p2⟩ := (h7 e).lt
  rw [p1]
  intro e2
  injection e2 with e2
  injection e2 with e2
  injection e2 with e2
  omega
theorem PairI.alloc5 (h : PairI W1 sA sB b0 b1 b2 b3 b4 false b6 b7 u0 u1 u2 u3 u4 u5 w) :
    PairI W1 sA sB b0 b1 b2 b3 b4 true b6 b7 u0 u1 u2 u3 u4 (.pointer (some ⟨w.heap.size, 0, none⟩)) (w.alloc (.cells zc 27)) := by
  obtain ⟨h1, h2, h3, h4, h5, h6, h7, h8, h9, h10⟩ := h
  have e7 : b7 = false := by cases b7 with | false => rfl | true => exact absurd (h10 rfl).2 (by simp)
  subst e7
  have hb : Below w.heap.size w (w.alloc (.cells zc 27)) := (Below.refl _ _).alloc (Nat.le_refl _) _
  refine ⟨h1.trans (hb.mono h1.size), h2, h3, h4, h5, fun e => (h6 e).on hb, fun _ => ⟨w.heap.size, rfl, h1.size, fun _ => Box.new _ _ _, nofun⟩, fun e _ => ?_, h9, nofun⟩
  obtain ⟨g, p1, p2⟩ := (h6 e).lt
  rw [p1]
  intro e2
  injection e2 with e2
  injection e2 with e2
  injection e2 with e2
  omega
theorem Box.elsewhere {g g2 : Nat} {t : TypeId} {cs : Array Value} (h : Box w g t cs) (hne : g2 ≠ g) (i : Nat) (u : Value) : Box (w.setCell ⟨g2, i, none⟩ u) g t cs :=
  (Below.heap_setCell w ⟨g2, i, none⟩ u g (fun e => hne e.symm)).trans h
theorem PBox.elsewhere {u v : Value} {st : Bool} {g : Nat} (h : PBox W1 w u v st) (hne : (.pointer (some ⟨g, 0, none⟩) : Value) ≠ v) (i : Nat) (x : Value) : PBox W1 (w.setCell ⟨g, i, none⟩ x) u v st := by
  obtain ⟨g2, p1, p2, p3, p4⟩ := h
  have hn : g ≠ g2 := fun e => hne (by rw [p1, e])
  exact ⟨g2, p1, p2, fun e => (p3 e).elsewhere hn _ _, fun e => by obtain ⟨k, n, s, e1, e2⟩ := p4 e; exact ⟨k, n, s, e1, e2.elsewhere hn _ _⟩⟩
abbrev store3 (w : World) (g : Nat) (k n : Int) (s : ByteArray) : World := ((w.setCell ⟨g, 0, none⟩ (.int .i64 k)).setCell ⟨g, 1, none⟩ (.int .i64 n)).setCell ⟨g, 2, none⟩ (.string s)
theorem Box.store3 {g : Nat} {t : TypeId} (h : Box w g t zc) (k n : Int) (s : ByteArray) : Box (store3 w g k n s) g t #[.int .i64 k, .int .i64 n, .string s] :=
  ((h.put 0 _).put 1 _).put 2 _
theorem PairI.at4 (h : PairI W1 sA sB b0 true b2 b3 true b5 false b7 u0 u1 u2 u3 u4 u5 w) : ∃ g k n s, u4 = .pointer (some ⟨g, 0, none⟩) ∧ u1 = W.V k n s ∧ WV k n s ∧ Box w g 27 zc ∧
    PairI W1 sA sB b0 true b2 b3 true b5 true b7 u0 u1 u2 u3 u4 u5 (store3 w g k n s) := by
  obtain ⟨h1, h2, h3, h4, h5, h6, h7, h8, h9, h10⟩ := h
  obtain ⟨k, n, s, hv, hu⟩ := h4 rfl
  obtain ⟨g, p1, p2, p3, p4⟩ := h6 rfl
  refine ⟨g, k, n, s, p1, hu, hv, p3 rfl, ?_, h2, h3, fun _ => ⟨k, n, s, hv, hu⟩, h5, fun _ => ⟨g, p1, p2, nofun, fun _ => ⟨k, n, s, hu, (p3 rfl).store3 k n s⟩⟩, fun e => ?_, h8, fun _ => ⟨rfl, rfl⟩, h10⟩
  · exact ((h1.setCell (p := ⟨g, 0, none⟩) p2 _).setCell (p := ⟨g, 1, none⟩) p2 _).setCell (p := ⟨g, 2, none⟩) p2 _
  · have hne := h8 rfl e
    rw [p1] at hne
    exact (((h7 e).elsewhere hne _ _).elsewhere hne _ _).elsewhere hne _ _
theorem PairI.at5 (h : PairI W1 sA sB b0 b1 b2 true b4 true b6 false u0 u1 u2 u3 u4 u5 w) : ∃ g k n s, u5 = .pointer (some ⟨g, 0, none⟩) ∧ u3 = W.V k n s ∧ WV k n s ∧ Box w g 27 zc ∧
    PairI W1 sA sB b0 b1 b2 true b4 true b6 true u0 u1 u2 u3 u4 u5 (store3 w g k n s) := by
  obtain ⟨h1, h2, h3, h4, h5, h6, h7, h8, h9, h10⟩ := h
  obtain ⟨k, n, s, hv, hu⟩ := h5 rfl
  obtain ⟨g, p1, p2, p3, p4⟩ := h7 rfl
  refine ⟨g, k, n, s, p1, hu, hv, p3 rfl, ?_, h2, h3, h4, fun _ => ⟨k, n, s, hv, hu⟩, fun e => ?_, fun _ => ⟨g, p1, p2, nofun, fun _ => ⟨k, n, s, hu, (p3 rfl).store3 k n s⟩⟩, h8, h9, fun _ => ⟨rfl, rfl⟩⟩
  · exact ((h1.setCell (p := ⟨g, 0, none⟩) p2 _).setCell (p := ⟨g, 1, none⟩) p2 _).setCell (p := ⟨g, 2, none⟩) p2 _
  · have hne : u5 ≠ u4 := fun e2 => h8 e rfl e2.symm
    rw [p1] at hne
    exact (((h6 e).elsewhere hne _ _).elsewhere hne _ _).elsewhere hne _ _
theorem PairI.fin (h : PairI W1 sA sB b0 true b2 true true true true true u0 u1 u2 u3 u4 u5 w) : ∃ (g1 g2 : Nat) (x y : Vt), u4 = .pointer (some ⟨g1, 0, none⟩) ∧ u5 = .pointer (some ⟨g2, 0, none⟩) ∧ g1 ≠ g2 ∧ u1 = valV x ∧ u3 = valV y ∧
    WV x.1 x.2.1 x.2.2 ∧ WV y.1 y.2.1 y.2.2 ∧ Box w g1 27 #[.int .i64 x.1, .int .i64 x.2.1, .string x.2.2] ∧ Box w g2 27 #[.int .i64 y.1, .int .i64 y.2.1, .string y.2.2] ∧ Below W1.heap.size W1 w ∧ W1.heap.size ≤ g1 ∧ W1.heap.size ≤ g2 := by
  obtain ⟨h1, h2, h3, h4, h5, h6, h7, h8, h9, h10⟩ := h
  obtain ⟨k, n, s, hv, hu⟩ := h4 rfl
  obtain ⟨k', n', s', hv', hu'⟩ := h5 rfl
  obtain ⟨g, p1, p2, p3, p4⟩ := h6 rfl
  obtain ⟨g', p1', p2', p3', p4'⟩ := h7 rfl
  obtain ⟨k1, n1, s1, e1, hb⟩ := p4 rfl
  obtain ⟨k2, n2, s2, e2, hb'⟩ := p4' rfl
  have E1 := hu.symm.trans e1
  have E2 := hu'.symm.trans e2
  simp only [Value.agg.injEq, Array.mk.injEq, List.cons.injEq, Value.int.injEq, Value.string.injEq, and_true, true_and] at E1 E2
  obtain ⟨rfl, rfl, rfl⟩ := E1
  obtain ⟨rfl, rfl, rfl⟩ := E2
  exact ⟨g, g', (k, n, s), (k', n', s'), p1, p1', fun e => h8 rfl rfl (by rw [p1, p1', e]), hu, hu', hv, hv', hb, hb', h1, p2, p2'⟩
end

/-- Six slots of a frame. -/
def put6 (a : Act) (s0 s1 s2 s3 s4 s5 : Nat) (u0 u1 u2 u3 u4 u5 : Value) : Act :=
  { a with tmps := (((((a.tmps.setIfInBounds s0 u0).setIfInBounds s1 u1).setIfInBounds s2 u2).setIfInBounds s3 u3).setIfInBounds s4 u4).setIfInBounds s5 u5 }
def PInv (W1 : World) (sA sB : Value) (a0 : Act) (s0 s1 s2 s3 s4 s5 : Nat) (b : Array Bool) (a : Act) (w : World) : Prop :=
  ∃ u0 u1 u2 u3 u4 u5, a = put6 a0 s0 s1 s2 s3 s4 s5 u0 u1 u2 u3 u4 u5 ∧
    PairI W1 sA sB (b.getD 0 false) (b.getD 1 false) (b.getD 2 false) (b.getD 3 false) (b.getD 4 false) (b.getD 5 false) (b.getD 6 false) (b.getD 7 false) u0 u1 u2 u3 u4 u5 w
theorem PInv.mk {W1 : World} {sA sB : Value} {a0 : Act} {s0 s1 s2 s3 s4 s5 : Nat} {b : Array Bool} {a : Act} {w : World} {u0 u1 u2 u3 u4 u5 : Value}
    (h : PairI W1 sA sB (b.getD 0 false) (b.getD 1 false) (b.getD 2 false) (b.getD 3 false) (b.getD 4 false) (b.getD 5 false) (b.getD 6 false) (b.getD 7 false) u0 u1 u2 u3 u4 u5 w) (he : a = put6 a0 s0 s1 s2 s3 s4 s5 u0 u1 u2 u3 u4 u5) : PInv W1 sA sB a0 s0 s1 s2 s3 s4 s5 b a w :=
  ⟨u0, u1, u2, u3, u4, u5, he, h⟩
theorem after_of {o : Oper} {b : Array Bool} (j : Nat) (h : (o.after.any fun e => Region.binds .any e && e.on == j) = true) (hb : ∀ e ∈ o.after, Region.binds .any e = true → b.getD e.on false = true) : b.getD j false = true := by
  obtain ⟨e, he, h⟩ := Array.any_eq_true'.1 h
  simp only [Bool.and_eq_true, beq_iff_eq] at h
  have := hb e he h.1
  rwa [h.2] at this
section
variable {W1 w w' : World} {sA sB : Value} {a0 : Act} {s0 s1 s2 s3 s4 s5 : Nat} {b : Array Bool} {u0 u1 u2 u3 u4 u5 : Value}
abbrev PW (W1 : World) (sA sB : Value) (b : Array Bool) (u0 u1 u2 u3 u4 u5 : Value) (w : World) : Prop :=
  PairI W1 sA sB (b.getD 0 false) (b.getD 1 false) (b.getD 2 false) (b.getD 3 false) (b.getD 4 false) (b.getD 5 false) (b.getD 6 false) (b.getD 7 false) u0 u1 u2 u3 u4 u5 w
theorem PW.load0 (h : PW W1 sA sB b u0 u1 u2 u3 u4 u5 w) (hb : b.size = 8) : PW W1 sA sB (b.setIfInBounds 0 true) sA u1 u2 u3 u4 u5 w := by
  unfold PW
  rw [set_same (by omega), set_other (by decide), set_other (by decide), set_other (by decide), set_other (by decide), set_other (by decide), set_other (by decide), set_other (by decide)]
  exact PairI.load0 h
theorem PW.load2 (h : PW W1 sA sB b u0 u1 u2 u3 u4 u5 w) (hb : b.size = 8) : PW W1 sA sB (b.setIfInBounds 2 true) u0 u1 sB u3 u4 u5 w := by
  unfold PW
  rw [set_same (by omega), set_other (by decide), set_other (by decide), set_other (by decide), set_other (by decide), set_other (by decide), set_other (by decide), set_other (by decide)]
  exact PairI.load2 h
theorem PW.call1 (h : PW W1 sA sB b u0 u1 u2 u3 u4 u5 w) (hb : b.size = 8) (hf : b.getD 1 false = false) {k n : Int} {s : ByteArray} (hv : WV k n s) (hw : Below w.heap.size w w') :
    PW W1 sA sB (b.setIfInBounds 1 true) u0 (W.V k n s) u2 u3 u4 u5 w' := by
  unfold PW
  rw [set_same (by omega), set_other (by decide), set_other (by decide), set_other (by decide), set_other (by decide), set_other (by decide), set_other (by decide), set_other (by decide)]
  unfold PW at h
  rw [hf] at h
  exact PairI.call1 h hv hw
theorem PW.call3 (h : PW W1 sA sB b u0 u1 u2 u3 u4 u5 w) (hb : b.size = 8) (hf : b.getD 3 false = false) {k n : Int} {s : ByteArray} (hv : WV k n s) (hw : Below w.heap.size w w') :
    PW W1 sA sB (b.setIfInBounds 3 true) u0 u1 u2 (W.V k n s) u4 u5 w' := by
  unfold PW
  rw [set_same (by omega), set_other (by decide), set_other (by decide), set_other (by decide), set_other (by decide), set_other (by decide), set_other (by decide), set_other (by decide)]
  unfold PW at h
  rw [hf] at h
  exact PairI.call3 h hv hw
theorem PW.alloc4 (h : PW W1 sA sB b u0 u1 u2 u3 u4 u5 w) (hb : b.size = 8) (hf : b.getD 4 false = false) :
    PW W1 sA sB (b.setIfInBounds 4 true) u0 u1 u2 u3 (.pointer (some ⟨w.heap.size, 0, none⟩)) u5 (w.alloc (.cells zc 27)) := by
  unfold PW
  rw [set_same (by omega), set_other (by decide), set_other (by decide), set_other (by decide), set_other (by decide), set_other (by decide), set_other (by decide), set_other (by decide)]
  unfold PW at h
  rw [hf] at h
  exact PairI.alloc4 h
theorem PW.alloc5 (h : PW W1 sA sB b u0 u1 u2 u3 u4 u5 w) (hb : b.size = 8) (hf : b.getD 5 false = false) :
    PW W1 sA sB (b.setIfInBounds 5 true) u0 u1 u2 u3 u4 (.pointer (some ⟨w.heap.size, 0, none⟩)) (w.alloc (.cells zc 27)) := by
  unfold PW
  rw [set_same (by omega), set_other (by decide), set_other (by decide), set_other (by decide), set_other (by decide), set_other (by decide), set_other (by decide), set_other (by decide)]
  unfold PW at h
  rw [hf] at h
  exact PairI.alloc5 h
theorem PW.at4 (h : PW W1 sA sB b u0 u1 u2 u3 u4 u5 w) (hb : b.size = 8) (hf : b.getD 6 false = false) (h1 : b.getD 1 false = true) (h4 : b.getD 4 false = true) :
    ∃ g k n s, u4 = .pointer (some ⟨g, 0, none⟩) ∧ u1 = W.V k n s ∧ Box w g 27 zc ∧ PW W1 sA sB (b.setIfInBounds 6 true) u0 u1 u2 u3 u4 u5 (store3 w g k n s) := by
  unfold PW at h
  rw [hf, h1, h4] at h
  obtain ⟨g, k, n, s, e1, e2, e3, e4, e5⟩ := PairI.at4 h
  refine ⟨g, k, n, s, e1, e2, e4, ?_⟩
  unfold PW
  rw [set_same (by omega), set_other (by decide), set_other (by decide), set_other (by decide), set_other (by decide), set_other (by decide), set_other (by decide), set_other (by decide), h1, h4]
  exact e5
theorem PW.at5 (h : PW W1 sA sB b u0 u1 u2 u3 u4 u5 w) (hb : b.size = 8) (hf : b.getD 7 false = false) (h3 : b.getD 3 false = true) (h5 : b.getD 5 false = true) :
    ∃ g k n s, u5 = .pointer (some ⟨g, 0, none⟩) ∧ u3 = W.V k n s ∧ Box w g 27 zc ∧ PW W1 sA sB (b.setIfInBounds 7 true) u0 u1 u2 u3 u4 u5 (store3 w g k n s) := by
  unfold PW at h
  rw [hf, h3, h5] at h
  obtain ⟨g, k, n, s, e1, e2, e3, e4, e5⟩ := PairI.at5 h
  refine ⟨g, k, n, s, e1, e2, e4, ?_⟩
  unfold PW
  rw [set_same (by omega), set_other (by decide), set_other (by decide), set_other (by decide), set_other (by decide), set_other (by decide), set_other (by decide), set_other (by decide), h3, h5]
  exact e5
end
theorem wp_region_pair {P : Program} {Q : Exit → Act → World → Prop} {id : Nat} {a : Act} {w : World} {l : List Oper} (sA sB : Value) (s0 s1 s2 s3 s4 s5 : Nat) (hm : P.follows .mixedOrders = true) (hl : l.length = 8)
    (hu : a = put6 a s0 s1 s2 s3 s4 s5 undef undef undef undef undef undef) (hs : Steps P .any l.toArray Q (PInv w sA sB a s0 s1 s2 s3 s4 s5) 0 l) (hfull : endsFull .any l.toArray = true)
    (hend : ∀ (u0 u2 : Value) (g1 g2 : Nat) (x y : Vt) (w' : World), g1 ≠ g2 → WV x.1 x.2.1 x.2.2 → WV y.1 y.2.1 y.2.2 → Box w' g1 27 #[.int .i64 x.1, .int .i64 x.2.1, .string x.2.2] →
      Box w' g2 27 #[.int .i64 y.1, .int .i64 y.2.1, .string y.2.2] → Below w.heap.size w w' → w.heap.size ≤ g1 → w.heap.size ≤ g2 →
      Q .normal (put6 a s0 s1 s2 s3 s4 s5 u0 (valV x) u2 (valV y) (.pointer (some ⟨g1, 0, none⟩)) (.pointer (some ⟨g2, 0, none⟩))) w') : (Code.region id l.toArray true).wp P Q a w := by
  refine wp_region_inv hm (PInv w sA sB a s0 s1 s2 s3 s4 s5) ?_ hs ?_
  · refine ⟨_, _, _, _, _, _, hu, ?_⟩
    rw [hl]
    exact PairI.start _ _ _ _ _ _ _ _ _
  · rintro b a' w' hb hr ⟨u0, u1, u2, u3, u4, u5, rfl, hI⟩
    have hf : ∀ i, i < 8 → b.getD i false = true := fun i hi => full_of_end hfull (by simpa using hb) hr i (by simp; omega)
    rw [hf 0 (by omega), hf 1 (by omega), hf 2 (by omega), hf 3 (by omega), hf 4 (by omega), hf 5 (by omega), hf 6 (by omega), hf 7 (by omega)] at hI
    obtain ⟨g1, g2, x, y, rfl, rfl, hne, rfl, rfl, hx, hy, b1, b2, hB, k1, k2⟩ := hI.fin
    exact hend u0 u2 g1 g2 x y w' hne hx hy b1 b2 hB k1 k2
theorem Box.atV {w : World} {g : Nat} {k n : Int} {s : ByteArray} (h : Box w g 27 #[.int .i64 k, .int .i64 n, .string s]) : W.AtV w g k n s :=
  ⟨h.at_ 0, h.at_ 1, h.at_ 2, h.free 0, h.free 1, h.free 2⟩
end Go.Proofs.YtbkgophgclpijaaDoor
