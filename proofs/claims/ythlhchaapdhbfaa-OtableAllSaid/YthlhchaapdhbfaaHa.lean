/- The law's pair: a new cursor of both, the world at each stage. -/
import Derived.Test.YthlhchaapdhbfaaGr
import Derived.Test.YthlhchaapdhbfaaIk
namespace Go.Proofs.Ythlhchaapdhbfaa
open Go Go.RowKit

/-- Where the making of a cursor stands: F, O what the table has; g2, g3 the pair's cells; v2, v3 the rows; p, q, r the new blocks. -/
structure KS (B gb t gm : Nat) (l : List Re) (cl : Int) (vl : Value) (cs : List Cu) (w0 : World) (F : Nat → Prop) (O : Ob) (g2 g3 v2 : Value) (n2 : Nat) (L2 : List Value) (v3 : Value) (n3 : Nat) (L3 : List Value) (p : Option (Nat × Value)) (q : Option Nat) (r : Option (Nat × Value)) (w : World) : Prop where
  below : Below B w0 w
  box : Box w gb 74 #[.pointer (some ⟨t, 0, none⟩), .pointer (some ⟨gm, 0, none⟩), g2, g3]
  rt : RT w B gm l cl vl
  tf : Tf B t F O w
  rc : w.ownsRow B 88 1 v2 n2 L2
  rd : w.ownsRow B 123 1 v3 n3 L3
  bd : ∀ x ∈ cs, B ≤ x.d ∧ Box w x.d 125 (refC x)
  sh : ∀ x ∈ cs, x.shut = true → ∃ a b, Box w x.c 130 #[.pointer none, a, b]
  nc : ∀ k, v2.ownBlock = some k → ¬ F k
  hp : ∀ b v, p = some (b, v) → Box w b 88 #[v] ∧ ¬ F b ∧ v2.ownBlock ≠ some b
  hq : ∀ b, q = some b → B ≤ b ∧ Box w b 125 #[.int .i64 0, .int .i64 cl, .bool false] ∧ ∀ x ∈ cs, x.d ≠ b
  hr : ∀ b v, r = some (b, v) → Box w b 123 #[v] ∧ v3.ownBlock ≠ some b
  bt : B ≤ gb
section
variable {B gb t gm : Nat} {l : List Re} {cl : Int} {vl : Value} {cs : List Cu} {w0 : World} {F F' : Nat → Prop} {O O' : Ob} {g2 g3 v2 : Value} {n2 : Nat} {L2 : List Value} {v3 : Value} {n3 : Nat} {L3 : List Value} {p : Option (Nat × Value)} {q : Option Nat} {r : Option (Nat × Value)} {w w' : World}
theorem KS.on (h : KS B gb t gm l cl vl cs w0 F O g2 g3 v2 n2 L2 v3 n3 L3 p q r w) (hb : Below w.heap.size w w') : KS B gb t gm l cl vl cs w0 F O g2 g3 v2 n2 L2 v3 n3 L3 p q r w' :=
  have ht : Touch (fun _ => False) w w' := Touch.of_below hb
  ⟨h.below.trans (hb.mono h.tf.le), h.box.on hb h.box.lt, h.rt.on hb, h.tf.on hb, own_touch h.rc ht (fun _ _ e => e), own_touch h.rd ht (fun _ _ e => e), fun x hx => ⟨(h.bd x hx).1, (h.bd x hx).2.on hb (h.bd x hx).2.lt⟩,
    fun x hx hs => by obtain ⟨a, b, e⟩ := h.sh x hx hs; exact ⟨a, b, e.on hb e.lt⟩, h.nc, fun b v e => by obtain ⟨a1, a2⟩ := h.hp b v e; exact ⟨a1.on hb a1.lt, a2⟩, fun b e => by obtain ⟨a1, a2, a3⟩ := h.hq b e; exact ⟨a1, a2.on hb a2.lt, a3⟩,
    fun b v e => by obtain ⟨a1, a2⟩ := h.hr b v e; exact ⟨a1.on hb a1.lt, a2⟩, h.bt⟩
theorem KS.setp (h : KS B gb t gm l cl vl cs w0 F O g2 g3 v2 n2 L2 v3 n3 L3 none q r w) (v : Value) : KS B gb t gm l cl vl cs w0 F O g2 g3 v2 n2 L2 v3 n3 L3 (some (w.heap.size, v)) q r (w.alloc (.cells #[v] 88)) := by
  obtain ⟨a1, a2, a3, a4, a5, a6, a7, a8, a9, a10, a11, a12, a13⟩ := h.on ((Below.refl w.heap.size w).alloc (Nat.le_refl _) (.cells #[v] 88))
  refine ⟨a1, a2, a3, a4, a5, a6, a7, a8, a9, fun b u e => ?_, a11, a12, a13⟩
  cases e
  exact ⟨Box.new w _ _, fun hk => by have := (h.tf.lt _ hk).2; omega, fun hk => by have := (own_lt h.rc _ hk).2; omega⟩
theorem KS.setq (h : KS B gb t gm l cl vl cs w0 F O g2 g3 v2 n2 L2 v3 n3 L3 p none r w) : KS B gb t gm l cl vl cs w0 F O g2 g3 v2 n2 L2 v3 n3 L3 p (some w.heap.size) r (w.alloc (.cells #[.int .i64 0, .int .i64 cl, .bool false] 125)) := by
  obtain ⟨a1, a2, a3, a4, a5, a6, a7, a8, a9, a10, a11, a12, a13⟩ := h.on ((Below.refl w.heap.size w).alloc (Nat.le_refl _) (.cells #[.int .i64 0, .int .i64 cl, .bool false] 125))
  refine ⟨a1, a2, a3, a4, a5, a6, a7, a8, a9, a10, fun b e => ?_, a12, a13⟩
  cases e
  exact ⟨h.tf.le, Box.new w _ _, fun x hx => by have := (h.bd x hx).2.lt; omega⟩
theorem KS.setr (h : KS B gb t gm l cl vl cs w0 F O g2 g3 v2 n2 L2 v3 n3 L3 p q none w) (v : Value) : KS B gb t gm l cl vl cs w0 F O g2 g3 v2 n2 L2 v3 n3 L3 p q (some (w.heap.size, v)) (w.alloc (.cells #[v] 123)) := by
  obtain ⟨a1, a2, a3, a4, a5, a6, a7, a8, a9, a10, a11, a12, a13⟩ := h.on ((Below.refl w.heap.size w).alloc (Nat.le_refl _) (.cells #[v] 123))
  refine ⟨a1, a2, a3, a4, a5, a6, a7, a8, a9, a10, a11, fun b u e => ?_, a13⟩
  cases e
  exact ⟨Box.new w _ _, fun hk => by have := (own_lt h.rd _ hk).2; omega⟩
theorem KS.cursor (h : KS B gb t gm l cl vl cs w0 F O g2 g3 v2 n2 L2 v3 n3 L3 none q r w) (hT : Tf B t F' O' w') (hs : Fs F F' w w') : KS B gb t gm l cl vl cs w0 F' O' g2 g3 v2 n2 L2 v3 n3 L3 none q r w' := by
  have no : ∀ {g : Nat} {e : TypeId}, Lab w g e → (e ≠ 121 ∧ e ≠ 133 ∧ e ≠ 3 ∧ e ≠ 88 ∧ e ≠ 130) → ¬ F g := fun hl he => h.tf.not_lab hl he
  refine ⟨h.below.trans (hs.below h.tf), h.box.touch hs.touch (no h.box.lab (by decide)), h.rt.touch hs.touch (fun k hk hF => rf_not h.rt h.tf k hF hk), hT, own_touch h.rc hs.touch h.nc, own_touch h.rd hs.touch (fun k hk => no (own_lab h.rd k hk) (by decide)),
    fun x hx => ⟨(h.bd x hx).1, (h.bd x hx).2.touch hs.touch (no (h.bd x hx).2.lab (by decide))⟩, fun x hx hsx => ?_, fun k hk hf => (hs.fresh k hf).elim (h.nc k hk) (fun h2 => by have := (own_lt h.rc k hk).2; omega), nofun, fun b e => ?_, fun b v e => ?_, h.bt⟩
  · obtain ⟨a, b, hb⟩ := h.sh x hx hsx
    exact ⟨a, b, hb.touch hs.touch (h.tf.not_closed hb)⟩
  · obtain ⟨a1, a2, a3⟩ := h.hq b e
    exact ⟨a1, a2.touch hs.touch (no a2.lab (by decide)), a3⟩
  · obtain ⟨a1, a2⟩ := h.hr b v e
    exact ⟨a1.touch hs.touch (no a1.lab (by decide)), a2⟩
theorem KS.app2 (h : KS B gb t gm l cl vl cs w0 F O g2 g3 v2 n2 L2 v3 n3 L3 p q r w) {g cap m : Nat} {L : List Value} (ho : w'.ownsRow B 88 1 (.slice (some ⟨g, 0, none⟩) m cap) m L) (hg : w.grownBy w' v2.ownBlock) (hb : v2.ownBlock = some g ∨ g = w.heap.size) :
    KS B gb t gm l cl vl cs w0 F O g2 g3 (.slice (some ⟨g, 0, none⟩) m cap) m L v3 n3 L3 none q r w' := by
  have ht : Touch (fun k => v2.ownBlock = some k) w w' := Touch.of_grown hg (fun k hk => hk)
  have no : ∀ {b : Nat} {e : TypeId}, Lab w b e → 88 ≠ e → ¬ v2.ownBlock = some b := fun hl he hk => (own_lab h.rc _ hk).ne hl he rfl
  refine ⟨h.below.trans (ht.below h.tf.le (fun k hk => (own_lt h.rc k hk).1)), h.box.touch ht (no h.box.lab (by decide)), h.rt.touch ht (fun k hk e => ?_), h.tf.touch ht (fun k hk e => h.nc k e hk), ho, own_touch h.rd ht (fun k hk => no (own_lab h.rd k hk) (by decide)),
    fun x hx => ⟨(h.bd x hx).1, (h.bd x hx).2.touch ht (no (h.bd x hx).2.lab (by decide))⟩, fun x hx hsx => ?_, fun k hk hf => ?_, nofun, fun b e => ?_, fun b v e => ?_, h.bt⟩
  · rcases rf_lab h.rt _ _ hk (own_lab h.rc k e) with h1 | h1
    · exact absurd h1 (by decide)
    · exact absurd h1 (by decide)
  · obtain ⟨a, b, hb⟩ := h.sh x hx hsx
    exact ⟨a, b, hb.touch ht (no hb.lab (by decide))⟩
  · cases hk
    rcases hb with hb | hb
    · exact h.nc _ hb hf
    · have h1 := (h.tf.lt _ hf).2
      subst hb
      exact Nat.lt_irrefl _ h1
  · obtain ⟨a1, a2, a3⟩ := h.hq b e
    exact ⟨a1, a2.touch ht (no a2.lab (by decide)), a3⟩
  · obtain ⟨a1, a2⟩ := h.hr b v e
    exact ⟨a1.touch ht (no a1.lab (by decide)), a2⟩
theorem KS.app3 (h : KS B gb t gm l cl vl cs w0 F O g2 g3 v2 n2 L2 v3 n3 L3 p q r w) {g cap m : Nat} {L : List Value} (ho : w'.ownsRow B 123 1 (.slice (some ⟨g, 0, none⟩) m cap) m L) (hg : w.grownBy w' v3.ownBlock) :
    KS B gb t gm l cl vl cs w0 F O g2 g3 v2 n2 L2 (.slice (some ⟨g, 0, none⟩) m cap) m L p q none w' := by
  have ht : Touch (fun k => v3.ownBlock = some k) w w' := Touch.of_grown hg (fun k hk => hk)
  have no : ∀ {b : Nat} {e : TypeId}, Lab w b e → 123 ≠ e → ¬ v3.ownBlock = some b := fun hl he hk => (own_lab h.rd _ hk).ne hl he rfl
  refine ⟨h.below.trans (ht.below h.tf.le (fun k hk => (own_lt h.rd k hk).1)), h.box.touch ht (no h.box.lab (by decide)), h.rt.touch ht (fun k hk e => ?_), h.tf.touch ht (fun k hk e => h.tf.not_lab (own_lab h.rd k e) (by decide) hk), own_touch h.rc ht (fun k hk => no (own_lab h.rc k hk) (by decide)), ho,
    fun x hx => ⟨(h.bd x hx).1, (h.bd x hx).2.touch ht (no (h.bd x hx).2.lab (by decide))⟩, fun x hx hsx => ?_, h.nc, fun b v e => ?_, fun b e => ?_, nofun, h.bt⟩
  · rcases rf_lab h.rt _ _ hk (own_lab h.rd k e) with h1 | h1
    · exact absurd h1 (by decide)
    · exact absurd h1 (by decide)
  · obtain ⟨a, b, hb⟩ := h.sh x hx hsx
    exact ⟨a, b, hb.touch ht (no hb.lab (by decide))⟩
  · obtain ⟨a1, a2⟩ := h.hp b v e
    exact ⟨a1.touch ht (no a1.lab (by decide)), a2⟩
  · obtain ⟨a1, a2, a3⟩ := h.hq b e
    exact ⟨a1, a2.touch ht (no a2.lab (by decide)), a3⟩
theorem KS.put (h : KS B gb t gm l cl vl cs w0 F O g2 g3 v2 n2 L2 v3 n3 L3 p q r w) (i : Nat) (u : Value) {a b : Value} (he : #[.pointer (some ⟨t, 0, none⟩), .pointer (some ⟨gm, 0, none⟩), g2, g3].setIfInBounds i u = #[.pointer (some ⟨t, 0, none⟩), .pointer (some ⟨gm, 0, none⟩), a, b]) :
    KS B gb t gm l cl vl cs w0 F O a b v2 n2 L2 v3 n3 L3 p q r (w.setCell ⟨gb, i, none⟩ u) := by
  have ht : Touch (fun k => k = gb) w (w.setCell ⟨gb, i, none⟩ u) := Touch.put (S := fun k => k = gb) rfl _ _
  have no : ∀ {g : Nat} {e : TypeId}, Lab w g e → e ≠ 74 → ¬ g = gb := fun hl he e => by
    subst e
    exact hl.ne h.box.lab he rfl
  have hx := h.box.put i u
  rw [he] at hx
  refine ⟨h.below.trans (ht.below h.tf.le (fun k hk => by rw [hk]; exact h.bt)), hx, h.rt.touch ht (fun k hk e => ?_), h.tf.touch ht (fun k hk e => ?_), own_touch h.rc ht (fun k hk => no (own_lab h.rc k hk) (by decide)), own_touch h.rd ht (fun k hk => no (own_lab h.rd k hk) (by decide)),
    fun x hx => ⟨(h.bd x hx).1, (h.bd x hx).2.touch ht (no (h.bd x hx).2.lab (by decide))⟩, fun x hx hsx => ?_, h.nc, fun b v e => ?_, fun b e => ?_, fun b v e => ?_, h.bt⟩
  · subst e
    rcases rf_lab h.rt _ _ hk h.box.lab with h1 | h1
    · exact absurd h1 (by decide)
    · exact absurd h1 (by decide)
  · subst e
    exact h.tf.not_lab h.box.lab (by decide) hk
  · obtain ⟨a, b, hb⟩ := h.sh x hx hsx
    exact ⟨a, b, hb.touch ht (no hb.lab (by decide))⟩
  · obtain ⟨a1, a2⟩ := h.hp b v e
    exact ⟨a1.touch ht (no a1.lab (by decide)), a2⟩
  · obtain ⟨a1, a2, a3⟩ := h.hq b e
    exact ⟨a1, a2.touch ht (no a2.lab (by decide)), a3⟩
  · obtain ⟨a1, a2⟩ := h.hr b v e
    exact ⟨a1.touch ht (no a1.lab (by decide)), a2⟩
end
abbrev lstC (cs : List Cu) : List Value := cs.map fun x => .pointer (some ⟨x.c, 0, none⟩)
abbrev lstD (cs : List Cu) : List Value := cs.map fun x => .pointer (some ⟨x.d, 0, none⟩)
/-- .. by which operations are done (b) and what they left (u). -/
def CX (B gb t gm : Nat) (l : List Re) (cl : Int) (vl : Value) (cs : List Cu) (w0 : World) (O0 : Ob) (vc vd : Value) (b10 b11 b12 b25 b26 b27 b30 b33 : Bool) (u10 u11 u12 u25 u26 u27 : Value) (w : World) : Prop :=
  ∃ (F : Nat → Prop) (c pb qb rb : Nat), (b10 = true → u10 = .pointer (some ⟨c, 0, none⟩)) ∧ (b11 = true → u11 = .slice (some ⟨pb, 0, none⟩) 1 1) ∧ (b25 = true → u25 = .pointer (some ⟨qb, 0, none⟩)) ∧ (b26 = true → u26 = .slice (some ⟨rb, 0, none⟩) 1 1) ∧
    (b12 = true → ∃ r cap, u12 = .slice (some ⟨r, 0, none⟩) (cs.length + 1) cap) ∧ (b27 = true → ∃ r cap, u27 = .slice (some ⟨r, 0, none⟩) (cs.length + 1) cap) ∧
    KS B gb t gm l cl vl cs w0 F (if b10 then (O0.1, O0.2 ++ [(c, O0.1)]) else O0) (if b30 then u12 else vc) (if b33 then u27 else vd) (if b12 then u12 else vc) (if b12 then cs.length + 1 else cs.length) (if b12 then lstC cs ++ [u10] else lstC cs) (if b27 then u27 else vd) (if b27 then cs.length + 1 else cs.length) (if b27 then lstD cs ++ [u25] else lstD cs)
      (if b11 && !b12 then some (pb, u10) else none) (if b25 then some qb else none) (if b26 && !b27 then some (rb, u25) else none) w
def CPh (B gb t gm : Nat) (l : List Re) (cl : Int) (vl : Value) (cs : List Cu) (w0 : World) (O0 : Ob) (vc vd : Value) (d : Nat → Bool) (us : Nat → Value) (w : World) : Prop :=
  CX B gb t gm l cl vl cs w0 O0 vc vd (d 10) (d 11) (d 12) (d 25) (d 26) (d 27) (d 30) (d 33) (us 10) (us 11) (us 12) (us 25) (us 26) (us 27) w
section
variable {B gb t gm : Nat} {l : List Re} {cl : Int} {vl vc vd : Value} {cs : List Cu} {w0 : World} {F : Nat → Prop} {O0 : Ob} {d : Nat → Bool} {us : Nat → Value} {w w' : World}
theorem CPh.step (h : CPh B gb t gm l cl vl cs w0 O0 vc vd d us w) (i : Nat) (v : Value) (hi : i ≠ 10 ∧ i ≠ 11 ∧ i ≠ 12 ∧ i ≠ 25 ∧ i ≠ 26 ∧ i ≠ 27 ∧ i ≠ 30 ∧ i ≠ 33) : CPh B gb t gm l cl vl cs w0 O0 vc vd (upd d i true) (upd us i v) w := by
  obtain ⟨h1, h2, h3, h4, h5, h6, h7, h8⟩ := hi
  unfold CPh at h ⊢
  rw [upd_ne d _ h1.symm, upd_ne d _ h2.symm, upd_ne d _ h3.symm, upd_ne d _ h4.symm, upd_ne d _ h5.symm, upd_ne d _ h6.symm, upd_ne d _ h7.symm, upd_ne d _ h8.symm, upd_ne us _ h1.symm, upd_ne us _ h2.symm, upd_ne us _ h3.symm, upd_ne us _ h4.symm, upd_ne us _ h5.symm, upd_ne us _ h6.symm]
  exact h
theorem CPh.c0 (h : CPh B gb t gm l cl vl cs w0 O0 vc vd d us w) : w.cell? ⟨gb, 0, none⟩ = some (.pointer (some ⟨t, 0, none⟩)) := by
  obtain ⟨F, c, pb, qb, rb, _, _, _, _, _, _, hk⟩ := h
  exact hk.box.at_ 0
theorem CPh.u10 (h : CPh B gb t gm l cl vl cs w0 O0 vc vd d us w) (hd : d 10 = true) : ∃ c, us 10 = .pointer (some ⟨c, 0, none⟩) := by
  obtain ⟨F, c, pb, qb, rb, i1, _, _, _, _, _, hk⟩ := h
  exact ⟨c, i1 hd⟩
theorem CPh.u25 (h : CPh B gb t gm l cl vl cs w0 O0 vc vd d us w) (hd : d 25 = true) : ∃ c, us 25 = .pointer (some ⟨c, 0, none⟩) := by
  obtain ⟨F, c, pb, qb, rb, _, _, i1, _, _, _, hk⟩ := h
  exact ⟨qb, i1 hd⟩
theorem CPh.c1 (h : CPh B gb t gm l cl vl cs w0 O0 vc vd d us w) : w.cell? ⟨gb, 1, none⟩ = some (.pointer (some ⟨gm, 0, none⟩)) := by
  obtain ⟨F, c, pb, qb, rb, _, _, _, _, _, _, hk⟩ := h
  exact hk.box.at_ 1
theorem CPh.cm (h : CPh B gb t gm l cl vl cs w0 O0 vc vd d us w) : w.cell? ⟨gm, 1, none⟩ = some (.int .i64 cl) := by
  obtain ⟨F, c, pb, qb, rb, _, _, _, _, _, _, hk⟩ := h
  exact hk.rt.box.at_ 1
theorem CPh.c2 (h : CPh B gb t gm l cl vl cs w0 O0 vc vd d us w) (hd : d 30 = false) : w.cell? ⟨gb, 2, none⟩ = some vc := by
  obtain ⟨F, c, pb, qb, rb, _, _, _, _, _, _, hk⟩ := h
  rw [hd] at hk
  exact hk.box.at_ 2
theorem CPh.c3 (h : CPh B gb t gm l cl vl cs w0 O0 vc vd d us w) (hd : d 33 = false) : w.cell? ⟨gb, 3, none⟩ = some vd := by
  obtain ⟨F, c, pb, qb, rb, _, _, _, _, _, _, hk⟩ := h
  rw [hd] at hk
  exact hk.box.at_ 3
def CurQ (B gb t gm : Nat) (l : List Re) (cl : Int) (vl : Value) (cs : List Cu) (w0 : World) (O0 : Ob) (vc vd : Value) (d : Nat → Bool) (us : Nat → Value) (e : Ending) (w' : World) : Prop := ∃ v, e = .returned v ∧ CPh B gb t gm l cl vl cs w0 O0 vc vd (upd d 10 true) (upd us 10 v) w'
theorem CPh.call (h : CPh B gb t gm l cl vl cs w0 O0 vc vd d us w) (h10 : d 10 = false) (h11 : d 11 = false) (h12 : d 12 = false) (hO : O0.2.length < 1000) :
    Calls Try.prog 38 #[.pointer (some ⟨t, 0, none⟩)] w (CurQ B gb t gm l cl vl cs w0 O0 vc vd d us) := by
  obtain ⟨F, c, pb, qb, rb, _, i2, i3, i4, i5, i6, hk⟩ := h
  rw [h10, h11, h12] at hk
  refine (cursor_tf hk.tf (by show O0.2.length < _; omega)).mono ?_
  rintro e w' ⟨rfl, F', hT, hs⟩
  refine ⟨_, rfl, ?_⟩
  unfold CPh
  rw [upd_same, upd_same, upd_ne d _ (by decide : 11 ≠ 10), upd_ne d _ (by decide : 12 ≠ 10), upd_ne d _ (by decide : 25 ≠ 10), upd_ne d _ (by decide : 26 ≠ 10), upd_ne d _ (by decide : 27 ≠ 10), upd_ne d _ (by decide : 30 ≠ 10), upd_ne d _ (by decide : 33 ≠ 10), upd_ne us _ (by decide : 11 ≠ 10), upd_ne us _ (by decide : 12 ≠ 10), upd_ne us _ (by decide : 25 ≠ 10), upd_ne us _ (by decide : 26 ≠ 10), upd_ne us _ (by decide : 27 ≠ 10), h11, h12]
  exact ⟨F', _, pb, qb, rb, fun _ => rfl, nofun, i3, i4, nofun, i6, hk.cursor hT hs⟩
theorem CPh.row2 (h : CPh B gb t gm l cl vl cs w0 O0 vc vd d us w) (h11 : d 11 = false) (h12 : d 12 = false) : CPh B gb t gm l cl vl cs w0 O0 vc vd (upd d 11 true) (upd us 11 (.slice (some ⟨w.heap.size, 0, none⟩) 1 1)) (w.alloc (.cells #[us 10] 88)) := by
  obtain ⟨F, c, pb, qb, rb, i1, i2, i3, i4, i5, i6, hk⟩ := h
  unfold CPh
  rw [upd_same, upd_same, upd_ne d _ (by decide : 10 ≠ 11), upd_ne d _ (by decide : 12 ≠ 11), upd_ne d _ (by decide : 25 ≠ 11), upd_ne d _ (by decide : 26 ≠ 11), upd_ne d _ (by decide : 27 ≠ 11), upd_ne d _ (by decide : 30 ≠ 11), upd_ne d _ (by decide : 33 ≠ 11), upd_ne us _ (by decide : 10 ≠ 11), upd_ne us _ (by decide : 12 ≠ 11), upd_ne us _ (by decide : 25 ≠ 11), upd_ne us _ (by decide : 26 ≠ 11), upd_ne us _ (by decide : 27 ≠ 11)]
  rw [h11, h12] at hk
  rw [h12] at i5 ⊢
  exact ⟨F, c, _, qb, rb, i1, fun _ => rfl, i3, i4, i5, i6, hk.setp _⟩
theorem CPh.box5 (h : CPh B gb t gm l cl vl cs w0 O0 vc vd d us w) (h25 : d 25 = false) (h26 : d 26 = false) (h27 : d 27 = false) : CPh B gb t gm l cl vl cs w0 O0 vc vd (upd d 25 true) (upd us 25 (.pointer (some ⟨w.heap.size, 0, none⟩))) (w.alloc (.cells #[.int .i64 0, .int .i64 cl, .bool false] 125)) := by
  obtain ⟨F, c, pb, qb, rb, i1, i2, i3, i4, i5, i6, hk⟩ := h
  unfold CPh
  rw [upd_same, upd_same, upd_ne d _ (by decide : 10 ≠ 25), upd_ne d _ (by decide : 11 ≠ 25), upd_ne d _ (by decide : 12 ≠ 25), upd_ne d _ (by decide : 26 ≠ 25), upd_ne d _ (by decide : 27 ≠ 25), upd_ne d _ (by decide : 30 ≠ 25), upd_ne d _ (by decide : 33 ≠ 25), upd_ne us _ (by decide : 10 ≠ 25), upd_ne us _ (by decide : 11 ≠ 25), upd_ne us _ (by decide : 12 ≠ 25), upd_ne us _ (by decide : 26 ≠ 25), upd_ne us _ (by decide : 27 ≠ 25)]
  rw [h25, h26, h27] at hk
  rw [h26] at i4 ⊢
  rw [h27] at i6 ⊢
  exact ⟨F, c, pb, _, rb, i1, i2, fun _ => rfl, i4, i5, i6, hk.setq⟩
theorem CPh.row3 (h : CPh B gb t gm l cl vl cs w0 O0 vc vd d us w) (h26 : d 26 = false) (h27 : d 27 = false) : CPh B gb t gm l cl vl cs w0 O0 vc vd (upd d 26 true) (upd us 26 (.slice (some ⟨w.heap.size, 0, none⟩) 1 1)) (w.alloc (.cells #[us 25] 123)) := by
  obtain ⟨F, c, pb, qb, rb, i1, i2, i3, i4, i5, i6, hk⟩ := h
  unfold CPh
  rw [upd_same, upd_same, upd_ne d _ (by decide : 10 ≠ 26), upd_ne d _ (by decide : 11 ≠ 26), upd_ne d _ (by decide : 12 ≠ 26), upd_ne d _ (by decide : 25 ≠ 26), upd_ne d _ (by decide : 27 ≠ 26), upd_ne d _ (by decide : 30 ≠ 26), upd_ne d _ (by decide : 33 ≠ 26), upd_ne us _ (by decide : 10 ≠ 26), upd_ne us _ (by decide : 11 ≠ 26), upd_ne us _ (by decide : 12 ≠ 26), upd_ne us _ (by decide : 25 ≠ 26), upd_ne us _ (by decide : 27 ≠ 26)]
  rw [h26, h27] at hk
  rw [h27] at i6 ⊢
  exact ⟨F, c, pb, qb, _, i1, i2, i3, fun _ => rfl, i5, i6, hk.setr _⟩
/-- What the first append needs, and what it leaves. -/
theorem CPh.app2 (h : CPh B gb t gm l cl vl cs w0 O0 vc vd d us w) (h10 : d 10 = true) (h11 : d 11 = true) (h12 : d 12 = false) (h30 : d 30 = false) : ∃ c pb, us 10 = .pointer (some ⟨c, 0, none⟩) ∧ us 11 = .slice (some ⟨pb, 0, none⟩) 1 1 ∧ w.ownsRow B 88 1 vc cs.length (lstC cs) ∧ w.cell? ⟨pb, 0, none⟩ = some (.pointer (some ⟨c, 0, none⟩)) ∧ B ≤ w.heap.size ∧
    ∀ w' g cap, w'.ownsRow B 88 1 (.slice (some ⟨g, 0, none⟩) (cs.length + 1) cap) (cs.length + 1) (lstC cs ++ [.pointer (some ⟨c, 0, none⟩)]) → w.grownBy w' vc.ownBlock → (vc.ownBlock = some g ∨ g = w.heap.size) → CPh B gb t gm l cl vl cs w0 O0 vc vd (upd d 12 true) (upd us 12 (.slice (some ⟨g, 0, none⟩) (cs.length + 1) cap)) w' := by
  obtain ⟨F, c, pb, qb, rb, i1, i2, i3, i4, i5, i6, hk⟩ := h
  rw [h11, h12, h30] at hk
  refine ⟨c, pb, i1 h10, i2 h11, hk.rc, by have := (hk.hp _ _ rfl).1.at_ 0; rw [i1 h10] at this; exact this, hk.tf.le, fun w' g cap ho hg hb => ?_⟩
  unfold CPh
  rw [upd_same, upd_same, upd_ne d _ (by decide : 10 ≠ 12), upd_ne d _ (by decide : 11 ≠ 12), upd_ne d _ (by decide : 25 ≠ 12), upd_ne d _ (by decide : 26 ≠ 12), upd_ne d _ (by decide : 27 ≠ 12), upd_ne d _ (by decide : 30 ≠ 12), upd_ne d _ (by decide : 33 ≠ 12), upd_ne us _ (by decide : 10 ≠ 12), upd_ne us _ (by decide : 11 ≠ 12), upd_ne us _ (by decide : 25 ≠ 12), upd_ne us _ (by decide : 26 ≠ 12), upd_ne us _ (by decide : 27 ≠ 12), h11, h30]
  have hh := hk.app2 ho hg hb
  rw [← i1 h10] at hh
  exact ⟨F, c, pb, qb, rb, i1, fun _ => i2 h11, i3, i4, fun _ => ⟨g, cap, rfl⟩, i6, hh⟩
theorem CPh.app3 (h : CPh B gb t gm l cl vl cs w0 O0 vc vd d us w) (h25 : d 25 = true) (h26 : d 26 = true) (h27 : d 27 = false) (h33 : d 33 = false) : ∃ qb rb, us 25 = .pointer (some ⟨qb, 0, none⟩) ∧ us 26 = .slice (some ⟨rb, 0, none⟩) 1 1 ∧ w.ownsRow B 123 1 vd cs.length (lstD cs) ∧ w.cell? ⟨rb, 0, none⟩ = some (.pointer (some ⟨qb, 0, none⟩)) ∧ B ≤ w.heap.size ∧
    ∀ w' g cap, w'.ownsRow B 123 1 (.slice (some ⟨g, 0, none⟩) (cs.length + 1) cap) (cs.length + 1) (lstD cs ++ [.pointer (some ⟨qb, 0, none⟩)]) → w.grownBy w' vd.ownBlock → CPh B gb t gm l cl vl cs w0 O0 vc vd (upd d 27 true) (upd us 27 (.slice (some ⟨g, 0, none⟩) (cs.length + 1) cap)) w' := by
  obtain ⟨F, c, pb, qb, rb, i1, i2, i3, i4, i5, i6, hk⟩ := h
  rw [h25, h26, h27, h33] at hk
  refine ⟨qb, rb, i3 h25, i4 h26, hk.rd, by have := (hk.hr _ _ rfl).1.at_ 0; rw [i3 h25] at this; exact this, hk.tf.le, fun w' g cap ho hg => ?_⟩
  unfold CPh
  rw [upd_same, upd_same, upd_ne d _ (by decide : 10 ≠ 27), upd_ne d _ (by decide : 11 ≠ 27), upd_ne d _ (by decide : 12 ≠ 27), upd_ne d _ (by decide : 25 ≠ 27), upd_ne d _ (by decide : 26 ≠ 27), upd_ne d _ (by decide : 30 ≠ 27), upd_ne d _ (by decide : 33 ≠ 27), upd_ne us _ (by decide : 10 ≠ 27), upd_ne us _ (by decide : 11 ≠ 27), upd_ne us _ (by decide : 12 ≠ 27), upd_ne us _ (by decide : 25 ≠ 27), upd_ne us _ (by decide : 26 ≠ 27), h25, h26, h33]
  have hh := hk.app3 ho hg
  rw [← i3 h25] at hh
  exact ⟨F, c, pb, qb, rb, i1, i2, fun _ => i3 h25, fun _ => i4 h26, i5, fun _ => ⟨g, cap, rfl⟩, hh⟩
theorem CPh.sto2 (h : CPh B gb t gm l cl vl cs w0 O0 vc vd d us w) (h12 : d 12 = true) : (∃ r cap, us 12 = .slice (some ⟨r, 0, none⟩) (cs.length + 1) cap) ∧ w.frozen? ⟨gb, 2, none⟩ = false ∧ ∀ u, CPh B gb t gm l cl vl cs w0 O0 vc vd (upd d 30 true) (upd us 30 u) (w.setCell ⟨gb, 2, none⟩ (us 12)) := by
  obtain ⟨F, c, pb, qb, rb, i1, i2, i3, i4, i5, i6, hk⟩ := h
  refine ⟨i5 h12, hk.box.free 2, fun u => ?_⟩
  unfold CPh
  rw [upd_same, upd_ne d _ (by decide : 10 ≠ 30), upd_ne d _ (by decide : 11 ≠ 30), upd_ne d _ (by decide : 12 ≠ 30), upd_ne d _ (by decide : 25 ≠ 30), upd_ne d _ (by decide : 26 ≠ 30), upd_ne d _ (by decide : 27 ≠ 30), upd_ne d _ (by decide : 33 ≠ 30), upd_ne us _ (by decide : 10 ≠ 30), upd_ne us _ (by decide : 11 ≠ 30), upd_ne us _ (by decide : 12 ≠ 30), upd_ne us _ (by decide : 25 ≠ 30), upd_ne us _ (by decide : 26 ≠ 30), upd_ne us _ (by decide : 27 ≠ 30)]
  exact ⟨F, c, pb, qb, rb, i1, i2, i3, i4, i5, i6, hk.put 2 (us 12) rfl⟩
theorem CPh.sto3 (h : CPh B gb t gm l cl vl cs w0 O0 vc vd d us w) (h27 : d 27 = true) : (∃ r cap, us 27 = .slice (some ⟨r, 0, none⟩) (cs.length + 1) cap) ∧ w.frozen? ⟨gb, 3, none⟩ = false ∧ ∀ u, CPh B gb t gm l cl vl cs w0 O0 vc vd (upd d 33 true) (upd us 33 u) (w.setCell ⟨gb, 3, none⟩ (us 27)) := by
  obtain ⟨F, c, pb, qb, rb, i1, i2, i3, i4, i5, i6, hk⟩ := h
  refine ⟨i6 h27, hk.box.free 3, fun u => ?_⟩
  unfold CPh
  rw [upd_same, upd_ne d _ (by decide : 10 ≠ 33), upd_ne d _ (by decide : 11 ≠ 33), upd_ne d _ (by decide : 12 ≠ 33), upd_ne d _ (by decide : 25 ≠ 33), upd_ne d _ (by decide : 26 ≠ 33), upd_ne d _ (by decide : 27 ≠ 33), upd_ne d _ (by decide : 30 ≠ 33), upd_ne us _ (by decide : 10 ≠ 33), upd_ne us _ (by decide : 11 ≠ 33), upd_ne us _ (by decide : 12 ≠ 33), upd_ne us _ (by decide : 25 ≠ 33), upd_ne us _ (by decide : 26 ≠ 33), upd_ne us _ (by decide : 27 ≠ 33)]
  exact ⟨F, c, pb, qb, rb, i1, i2, i3, i4, i5, i6, hk.put 3 (us 27) rfl⟩
theorem BS.cph (h : BS w B gb t gm F O0 l cl vl vc vd cs) (us : Nat → Value) : CPh B gb t gm l cl vl cs w O0 vc vd (fun _ => false) us w.drew :=
  have hh : BS w.drew B gb t gm F O0 l cl vl vc vd cs := h.on (Below.refl _ _).drew
  ⟨F, 0, 0, 0, 0, nofun, nofun, nofun, nofun, nofun, nofun, ⟨(Below.refl _ _).drew, hh.box, hh.rt, hh.tf, hh.cp.rc, hh.cp.rd, hh.cp.bd, hh.cp.sh, hh.cp.nc, nofun, nofun, nofun, hh.bt⟩⟩
theorem CPh.done (h : CPh B gb t gm l cl vl cs w0 O0 vc vd d us w) (hd : ∀ i, i < 34 → d i = true) (h0 : BS w0 B gb t gm F O0 l cl vl vc vd cs) (hdn : Dn cs) : ∃ F' O' vc' vd' cs', BS w B gb t gm F' O' l cl vl vc' vd' cs' ∧ Dn cs' ∧ cs'.length = cs.length + 1 ∧ Below B w0 w := by
  obtain ⟨F', c, pb, qb, rb, i1, i2, i3, i4, i5, i6, hk⟩ := h
  rw [i1 (hd 10 (by decide)), i3 (hd 25 (by decide)), hd 10 (by decide), hd 11 (by decide), hd 12 (by decide), hd 25 (by decide), hd 26 (by decide), hd 27 (by decide), hd 30 (by decide), hd 33 (by decide)] at hk
  obtain ⟨q1, q2, q3⟩ := hk.hq qb rfl
  have hl : (cs ++ [(⟨c, qb, 0, cl, false⟩ : Cu)]).length = cs.length + 1 := by simp
  refine ⟨F', _, us 12, us 27, cs ++ [⟨c, qb, 0, cl, false⟩], ⟨hk.box, hk.tf, hk.rt, ⟨?_, ?_, fun x hx => ?_, fun x hx hs => ?_, hk.nc⟩, h0.live, ?_, h0.bt, h0.uq, fun x hx he => ?_, fun x hx => ?_⟩, ?_, hl, hk.below⟩
  · rw [hl, List.map_append]
    exact hk.rc
  · rw [hl, List.map_append]
    exact hk.rd
  · rcases List.mem_append.1 hx with h1 | h1
    · exact hk.bd x h1
    · cases List.mem_singleton.1 h1
      exact ⟨q1, q2⟩
  · rcases List.mem_append.1 hx with h1 | h1
    · exact hk.sh x h1 hs
    · cases List.mem_singleton.1 h1
      cases hs
  · show (O0.2 ++ [(c, O0.1)]).Perm _
    unfold openC
    rw [List.filter_append, List.map_append]
    refine h0.curs.append (List.Perm.of_eq ?_)
    have hr : restR l cl ⟨c, qb, 0, cl, false⟩ = liveR l := by
      unfold restR
      rw [if_pos rfl]
      rfl
    show [(c, O0.1)] = [(c, restR l cl ⟨c, qb, 0, cl, false⟩)]
    rw [hr, h0.live]
  · rcases List.mem_append.1 hx with h1 | h1
    · exact h0.ats x h1 he
    · cases List.mem_singleton.1 h1
      exact Nat.zero_le _
  · rcases List.mem_append.1 hx with h1 | h1
    · exact h0.clrs x h1
    · cases List.mem_singleton.1 h1
      exact Int.le_refl _
  · unfold Dn
    rw [List.map_append]
    refine List.nodup_append.2 ⟨hdn, by simp, fun a ha b hb => ?_⟩
    obtain ⟨x, hx, rfl⟩ := List.mem_map.1 ha
    simp at hb
    rw [hb]
    exact q3 x hx
end
end Go.Proofs.Ythlhchaapdhbfaa
