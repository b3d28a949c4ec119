/- Values on both sides; a plan; the plain kinds. -/
import Derived.Test.YtgdkjkfbknbgkaaGreatDoorKh
namespace Go.Proofs.YtgdkjkfbknbgkaaGreatDoor
open Go Go.RowKit
attribute [local go_sem] Oper.semAt_some

theorem plainT_size (x : Vt) (hx : WV x.1 x.2.1 x.2.2) : (plainT x).size ≤ 1000 := by
  unfold plainT
  split
  · rename_i h
    have hn : M.Num x.1 x.2.1 := by
      unfold WV at hx
      rcases hx with ⟨h1 | h1 | h1, -⟩ | ⟨h1, -⟩ | ⟨h1, -⟩ | ⟨h1, -⟩ | ⟨h1 | h1, -⟩ <;> first | exact h1 | omega
    have := txt_size hn
    omega
  · split
    · decide
    · split
      · decide
      · split <;> decide
theorem textT_units (x : Vt) (hx : WV x.1 x.2.1 x.2.2) (h8 : x.1 ≠ 8) (h9 : x.1 ≠ 9) (h10 : x.1 ≠ 10) : ∃ l : List Nat, (textT x).1 = Go.Proofs.YtgdkjkfbknbgkaaGreatDoor.W.strU l ∧ (∀ u ∈ l, u < 65536) ∧ l.length ≤ 2000 := by
  by_cases h7 : x.1 = 7
  · have : textT x = (x.2.2, 0) := if_pos h7
    rw [this]
    unfold WV at hx
    rcases hx with ⟨h1, -⟩ | ⟨h1, -⟩ | ⟨h1, -⟩ | ⟨h1, -, l, hl, hn, hs⟩ | ⟨h1, -⟩
    · omega
    · omega
    · unfold M.Num at h1; omega
    · exact ⟨l, hs, hl, hn⟩
    · omega
  · have e : textT x = (⟨(Go.Proofs.YtgdkjkfbknbgkaaGreatDoor.W.ofB (plainT x)).toArray⟩, 0) := by
      unfold textT
      rw [if_neg h7, if_neg h8, if_neg (by omega)]
    rw [e]
    refine ⟨Go.Proofs.YtgdkjkfbknbgkaaGreatDoor.W.units (Go.Proofs.YtgdkjkfbknbgkaaGreatDoor.W.ofB (plainT x)), Go.Proofs.YtgdkjkfbknbgkaaGreatDoor.W.ofB_strU _, fun u hu => Go.Proofs.YtgdkjkfbknbgkaaGreatDoor.W.units_lt _ u hu, ?_⟩
    have := Go.Proofs.YtgdkjkfbknbgkaaGreatDoor.W.ofB_len (plainT x)
    have := plainT_size x hx
    omega
theorem goB_strU (l : List Nat) (hl : ∀ u ∈ l, u < 65536) : (⟨(Go.Proofs.YtgdkjkfbknbgkaaGreatDoor.W.goL (Go.Proofs.YtgdkjkfbknbgkaaGreatDoor.W.signs l)).toArray⟩ : ByteArray) = goB (Go.Proofs.YtgdkjkfbknbgkaaGreatDoor.W.strU l) := by
  unfold goB
  rw [Go.Proofs.YtgdkjkfbknbgkaaGreatDoor.W.strU_units l hl]
theorem strU_size (l : List Nat) : (Go.Proofs.YtgdkjkfbknbgkaaGreatDoor.W.strU l).size = 2 * l.length := by
  unfold Go.Proofs.YtgdkjkfbknbgkaaGreatDoor.W.strU
  show (l.flatMap Go.Proofs.YtgdkjkfbknbgkaaGreatDoor.W.u2).toArray.size = _
  rw [List.size_toArray]
  induction l with
  | nil => rfl
  | cons a r ih =>
    rw [List.flatMap_cons, List.length_append, ih, List.length_cons]
    show 2 + _ = _
    omega
/-- What is shown of a value that is no symbol and no object. -/
def lfB (v : Vt) : ByteArray := if v.1 = 10 then ⟨#[]⟩ else goB (textT v).1
theorem lfB_size (v : Vt) (hx : WV v.1 v.2.1 v.2.2) (h8 : v.1 ≠ 8) (h9 : v.1 ≠ 9) : (lfB v).size ≤ 13000 := by
  unfold lfB
  split
  · decide
  · rename_i h10
    obtain ⟨l, e, -, hn⟩ := textT_units v hx h8 h9 h10
    have h1 := goB_size (textT v).1
    have h2 := strU_size l
    rw [← e] at h2
    omega
set_option maxHeartbeats 1000000 in
set_option maxRecDepth 100000 in
theorem within_textB (W : World) (mv av : Value) (v : Vt) (e7 : (v.1 == 7) = false) (e10 : (v.1 == 10) = false) (e8 : (v.1 == 8) = false) (e9 : (v.1 == 9) = false) (t r : ByteArray) (st : Int) (HT : Veil (∀ W', Below W.heap.size W W' → Calls Tryz.prog 62 #[valV v] W' fun e w' => e = .returned (.tuple #[.string t, .int .i64 st]) ∧ Below W'.heap.size W' w')) (HG : Veil (∀ W, Calls Tryz.prog 16 #[.string t] W fun e w' => e = .returned (.string r) ∧ Below W.heap.size W w')) : Calls Tryz.prog 28 #[mv, valV v, av] W fun e w' => e = .returned (.string r) ∧ Below W.heap.size W w' := by
  have b1 := Box.new W 30 #[.int .i64 v.1, .int .i64 v.2.1, .string v.2.2]
  have bb : Below W.heap.size W (W.alloc (.cells #[.int .i64 v.1, .int .i64 v.2.1, .string v.2.2] 30)) := (Below.refl _ _).alloc (Nat.le_refl _) _
  obtain ⟨kb, hkb⟩ : ∃ kb, W.heap.size = kb := ⟨_, rfl⟩
  obtain ⟨W0, hW0⟩ : ∃ W0, W.alloc (.cells #[.int .i64 v.1, .int .i64 v.2.1, .string v.2.2] 30) = W0 := ⟨_, rfl⟩
  rw [hW0] at b1 bb
  have HW0 := Veil.mk (And.intro hW0 hkb)
  rw [hkb] at b1
  have HBB := Veil.mk (And.intro bb b1)
  have x0 : W0.cell? ⟨kb, 0, none⟩ = some (.int .i64 v.1) := b1.at_ 0
  have x1 : W0.cell? ⟨kb, 1, none⟩ = some (.int .i64 v.2.1) := b1.at_ 1
  have x2 : W0.cell? ⟨kb, 2, none⟩ = some (.string v.2.2) := b1.at_ 2
  have HT := Veil.mk (HT.out W0 bb)
  clear hW0 hkb b1 bb
  go_enter Tryz.func28, Tryz.ntmps28
  go_upto_region 1 with (fail)
  rw [HW0.out.1, HW0.out.2]
  go_wp2_with (first | (go_at_call 62; ((with_reducible refine HT.out.mono ?_); rintro e w8 ⟨rfl, hb8⟩; have HB8 := Veil.mk hb8; clear hb8)) | (go_at_call 16; ((with_reducible refine (HG.out _).mono ?_); rintro e w9 ⟨rfl, hb9⟩; have HB9 := Veil.mk hb9; clear hb9)))
  go_ret
  exact ⟨rfl, (HBB.out.1.trans (HB8.out.mono HBB.out.1.size)).trans (HB9.out.mono (Nat.le_trans HBB.out.1.size HB8.out.size))⟩

theorem within_leaf (W : World) (mv av : Value) (v : Vt) (hx : WV v.1 v.2.1 v.2.2) (h8 : v.1 ≠ 8) (h9 : v.1 ≠ 9) (hT : M.Tb W) : Calls Tryz.prog 28 #[mv, valV v, av] W fun e w' => e = .returned (.string (lfB v)) ∧ Below W.heap.size W w' := by
  by_cases h10 : v.1 = 10
  · rw [show lfB v = ⟨#[]⟩ from if_pos h10]
    exact within_empty W mv av v h10
  · obtain ⟨l, e, hl, hn⟩ := textT_units v hx h8 h9 h10
    have hgo : ∀ W, Calls Tryz.prog 16 #[.string (textT v).1] W fun e w' => e = .returned (.string (lfB v)) ∧ Below W.heap.size W w' := fun W2 => Go.Proofs.YtgdkjkfbknbgkaaGreatDoor.W.go_at l _ _ ⟨e.symm⟩ hl (by omega) ⟨by rw [goB_strU l hl, ← e]; exact (if_neg h10).symm⟩ W2
    by_cases h7 : v.1 = 7
    · have e2 : textT v = (v.2.2, 0) := if_pos h7
      rw [e2] at hgo
      exact within_str W mv av v h7 _ ⟨hgo⟩
    · exact within_textB W mv av v (by simpa using h7) (by simpa using h10) (by simpa using h8) (by simpa using h9) (textT v).1 _ (textT v).2 ⟨fun W' hb => text_any v hx W' (hT.on hb)⟩ ⟨hgo⟩
theorem rshow_lf (v : Vt) (d : Int) (hx : WV v.1 v.2.1 v.2.2) (h8 : v.1 ≠ 8) (h9 : v.1 ≠ 9) (w : World) (hT : M.Tb w) : Calls Tryz.prog 12 #[RV v none, .int .i64 d] w fun e w' => e = .returned (.string (lfB v)) ∧ Below w.heap.size w w' := by
  by_cases h10 : v.1 = 10
  · rw [show lfB v = ⟨#[]⟩ from if_pos h10]
    exact rshow_empty v none d h10 w
  · obtain ⟨l, e, hl, hn⟩ := textT_units v hx h8 h9 h10
    rw [show lfB v = goB (textT v).1 from if_neg h10]
    exact rshow_leaf v none d (by simpa using h10) (by simpa using h8) (by simpa using h9) hx (by rw [e, strU_size]; omega) w hT
abbrev RVt := Vt × Option Addr
def flatR (l : List RVt) : List Value := l.flatMap fun x => [.int .i64 x.1.1, .int .i64 x.1.2.1, .string x.1.2.2, .pointer x.2]
theorem flatR_len (l : List RVt) : (flatR l).length = l.length * 4 := by
  induction l with
  | nil => rfl
  | cons a r ih => simp only [flatR, List.flatMap_cons, List.length_append, List.length_cons, List.length_nil] at ih ⊢; omega
theorem flatR_at : ∀ (l : List RVt) (i : Nat) (x : RVt), l[i]? = some x → (flatR l)[i * 4]? = some (.int .i64 x.1.1) ∧ (flatR l)[i * 4 + 1]? = some (.int .i64 x.1.2.1) ∧ (flatR l)[i * 4 + 2]? = some (.string x.1.2.2) ∧ (flatR l)[i * 4 + 3]? = some (.pointer x.2)
  | a :: r, 0, x, h => by
    have : a = x := by simpa using h
    subst this
    exact ⟨rfl, rfl, rfl, rfl⟩
  | a :: r, i + 1, x, h => by
    have := flatR_at r i x (by simpa using h)
    rw [show (i + 1) * 4 = i * 4 + 4 by omega, show i * 4 + 4 + 1 = i * 4 + 1 + 4 by omega, show i * 4 + 4 + 2 = i * 4 + 2 + 4 by omega, show i * 4 + 4 + 3 = i * 4 + 3 + 4 by omega]
    exact this
/-- What lies in a block stays, where the block's label is a value's or an object's of the document's. -/
def Pres (F : Nat → Prop) (W W' : World) : Prop := ∀ k t, F k → Lab W k t → (t = 30 ∨ t = 33 ∨ t = 79) → W'.heap[k]? = W.heap[k]?
theorem Pres.kp {F : Nat → Prop} {ts : List TypeId} {W W' : World} (h : Kp ts W W') (ht : ts.contains 30 = false) (ht2 : ts.contains 33 = false) (ht3 : ts.contains 79 = false) : Pres F W W' := fun k t _ hl h9 => h k t hl (by rcases h9 with rfl | rfl | rfl <;> assumption)
theorem Pres.on {F : Nat → Prop} {W W' : World} (h : Below W.heap.size W W') : Pres F W W' := Pres.kp (ts := []) (Kp.of_below h) rfl rfl rfl
theorem Pres.trans {F : Nat → Prop} {W W1 W2 : World} (h : Pres F W W1) (h2 : Pres F W1 W2) : Pres F W W2 := fun k t hf hl ht => by
  have e := h k t hf hl ht
  obtain ⟨cs, fr, hb⟩ := hl
  exact (h2 k t hf ⟨cs, fr, e.trans hb⟩ ht).trans e
theorem Pres.put {F : Nat → Prop} (W : World) (g i : Nat) (u : Value) (hg : ¬ F g) : Pres F W (W.setCell ⟨g, i, none⟩ u) := fun k t hf _ _ => Below.heap_setCell W ⟨g, i, none⟩ u k (fun e => hg (by have e : k = g := e; rw [← e]; exact hf))
theorem Pres.mono {F F' : Nat → Prop} {W W' : World} (h : Pres F' W W') (hf : ∀ k, F k → F' k) : Pres F W W' := fun k t hk hl ht => h k t (hf k hk) hl ht
theorem Pres.box {F : Nat → Prop} {W W' : World} (h : Pres F W W') {o : Nat} {cs : Array Value} (hb : Box W o 79 cs) (hf : F o) : Box W' o 79 cs := (h o _ hf hb.lab (.inr (.inr rfl))).trans hb
/-- A slice value's block is one of F's. -/
def RowF (F : Nat → Prop) (ev : Value) : Prop := ∀ ad n cap, ev = .slice (some ad) n cap → F ad.block
theorem Pres.row {F : Nat → Prop} {W W' : World} (h : Pres F W W') {ev : Value} {l : List Vt} (hr : RowV W ev l) (hf : RowF F ev) : RowV W' ev l := by
  obtain ⟨ao, cap, e, h1, h2, h3⟩ := hr
  refine ⟨ao, cap, e, h1, h2, fun ad had => ?_⟩
  obtain ⟨g, e2, hl, hc⟩ := h3 ad had
  have hfg : F g := by
    have := hf ad l.length cap (by rw [e, had])
    rw [e2] at this
    exact this
  have hbk := h g _ hfg hl (.inl rfl)
  refine ⟨g, e2, ?_, fun j u hj => by rw [cell_blk hbk]; exact hc j u hj⟩
  obtain ⟨cs, fr, hx⟩ := hl
  exact ⟨cs, fr, hbk.trans hx⟩
/-- A row of the document's values in a block that is one of F's. -/
def RRowF (F : Nat → Prop) (W : World) (ev : Value) (l : List RVt) : Prop := ∃ ao cap, ev = .slice ao l.length cap ∧ (ao = none → l = []) ∧ ∀ ad, ao = some ad → ∃ g, ad = ⟨g, 0, none⟩ ∧ F g ∧ Lab W g 33 ∧ ∀ j u, (flatR l)[j]? = some u → W.cell? ⟨g, j, none⟩ = some u
theorem RRowF.row {F : Nat → Prop} {W : World} {ev : Value} {l : List RVt} (h : RRowF F W ev l) : RRow W ev l := by
  obtain ⟨ao, cap, e, h1, h2⟩ := h
  refine ⟨ao, cap, e, h1, fun ad had => ?_⟩
  obtain ⟨g, e2, -, hl, hc⟩ := h2 ad had
  refine ⟨g, e2, lab_lt hl, fun i x hi => ?_⟩
  obtain ⟨q0, q1, q2, q3⟩ := flatR_at l i x hi
  exact ⟨hc _ _ q0, hc _ _ q1, hc _ _ q2, hc _ _ q3⟩
theorem Pres.rrow {F F' : Nat → Prop} {W W' : World} (h : Pres F W W') {ev : Value} {l : List RVt} (hr : RRowF F W ev l) (hf : ∀ k, F k → F' k) : RRowF F' W' ev l := by
  obtain ⟨ao, cap, e, h1, h2⟩ := hr
  refine ⟨ao, cap, e, h1, fun ad had => ?_⟩
  obtain ⟨g, e2, hfg, hl, hc⟩ := h2 ad had
  have hbk := h g _ hfg hl (.inr (.inl rfl))
  refine ⟨g, e2, hf g hfg, ?_, fun j u hj => by rw [cell_blk hbk]; exact hc j u hj⟩
  obtain ⟨cs, fr, hx⟩ := hl
  exact ⟨cs, fr, hbk.trans hx⟩
/-- A value that is no array, on both sides, and what is shown of it. -/
def ShB (F : Nat → Prop) (W : World) (os : List OS) (v : Vt) (x : RVt) (s : ByteArray) : Prop :=
  (x = (v, none) ∧ WV v.1 v.2.1 v.2.2 ∧ v.1 ≠ 8 ∧ v.1 ≠ 9 ∧ s = lfB v) ∨
  (∃ (i b : Nat) (l : List Nat) (o : Nat) (rc : Array Value), v = (8, (i : Int) + 1, ⟨#[]⟩) ∧ os[i]? = some (b, #[.int .i64 7, .int .i64 0, .string (Go.Proofs.YtgdkjkfbknbgkaaGreatDoor.W.strU l)]) ∧ (∀ u ∈ l, u < 65536) ∧ l.length ≤ 2000 ∧ x = ((8, 0, ⟨#[]⟩), some ⟨o, 0, none⟩) ∧ F o ∧ Box W o 79 rc ∧ rc[4]? = some (.int .i64 7) ∧ rc[6]? = some (.string (Go.Proofs.YtgdkjkfbknbgkaaGreatDoor.W.strU l)) ∧ s = symS (Go.Proofs.YtgdkjkfbknbgkaaGreatDoor.W.strU l)) ∨
  (∃ (i b : Nat) (cs : Array Value) (c : Nat) (cn : Int) (nm : ByteArray) (o : Nat) (rc : Array Value), v = (9, (i : Int) + 1, ⟨#[]⟩) ∧ os[i]? = some (b, cs) ∧ cs.size ≠ 3 ∧ clsN[c]? = some cn ∧ cls[c]? = some nm ∧ cs[0]? = some (.int .i64 cn) ∧ x = ((9, 0, ⟨#[]⟩), some ⟨o, 0, none⟩) ∧ F o ∧ Box W o 79 rc ∧ rc[0]? = some (.string nm) ∧ s = ⟨#[91]⟩ ++ nm ++ ⟨#[93]⟩)
/-- An array on both sides. -/
def ArrC (F : Nat → Prop) (W : World) (os : List OS) (v : Vt) (x : RVt) (l : List Vt) (xs : List RVt) : Prop :=
  xs.length = l.length ∧ l.length ≤ 3 ∧ ∃ (i b : Nat) (cs : Array Value) (ev : Value) (o : Nat) (rc : Array Value) (rev : Value), v = (9, (i : Int) + 1, ⟨#[]⟩) ∧ os[i]? = some (b, cs) ∧ cs.size ≠ 3 ∧ cs[0]? = some (.int .i64 1) ∧ cs[4]? = some ev ∧ RowV W ev l ∧ RowF F ev ∧ x = ((9, 0, ⟨#[]⟩), some ⟨o, 0, none⟩) ∧ F o ∧ Box W o 79 rc ∧ rc[0]? = some (.string ⟨#[65, 114, 114, 97, 121]⟩) ∧ rc[3]? = some rev ∧ RRowF F W rev xs
/-- A value on both sides, and what is shown of it within 3 - k arrays. -/
def Sh (F : Nat → Prop) (W : World) (os : List OS) : Nat → Vt → RVt → ByteArray → Prop
  | 0, v, x, s => ShB F W os v x s ∨ (s = ⟨#[91, 46, 46, 93]⟩ ∧ ∃ l xs, ArrC F W os v x l xs)
  | k + 1, v, x, s => ShB F W os v x s ∨ ∃ l xs parts, ArrC F W os v x l xs ∧ parts.length = l.length ∧ (∀ p ∈ parts, p.size ≤ 1000000) ∧ (∀ (i : Nat) y z p, l[i]? = some y → xs[i]? = some z → parts[i]? = some p → Sh F W os k y z p) ∧ s = arrS parts
section
variable {F F' : Nat → Prop} {W W' : World} {os os' : List OS}
theorem ShB.go {v : Vt} {x : RVt} {s : ByteArray} (h : ShB F W os v x s) (hp : Pres F W W') (ho : ∀ (i : Nat) (o : OS), os[i]? = some o → os'[i]? = some o) (hf : ∀ k, F k → F' k) : ShB F' W' os' v x s := by
  rcases h with h | ⟨i, b, l, o, rc, h1, h2, h3, h4, h5, h6, h7, h8⟩ | ⟨i, b, cs, c, cn, nm, o, rc, h1, h2, h3, h4, h5, h6, h7, h8, h9, h10⟩
  · exact .inl h
  · exact .inr (.inl ⟨i, b, l, o, rc, h1, ho _ _ h2, h3, h4, h5, hf _ h6, hp.box h7 h6, h8⟩)
  · exact .inr (.inr ⟨i, b, cs, c, cn, nm, o, rc, h1, ho _ _ h2, h3, h4, h5, h6, h7, hf _ h8, hp.box h9 h8, h10⟩)
theorem ArrC.go {v : Vt} {x : RVt} {l : List Vt} {xs : List RVt} (h : ArrC F W os v x l xs) (hp : Pres F W W') (ho : ∀ (i : Nat) (o : OS), os[i]? = some o → os'[i]? = some o) (hf : ∀ k, F k → F' k) : ArrC F' W' os' v x l xs := by
  obtain ⟨hl, h3, i, b, cs, ev, o, rc, rev, q1, q2, q3, q4, q5, q6, q7, q8, q9, q10, q11, q12, q13⟩ := h
  exact ⟨hl, h3, i, b, cs, ev, o, rc, rev, q1, ho _ _ q2, q3, q4, q5, hp.row q6 q7, fun ad n cap e => hf _ (q7 ad n cap e), q8, hf _ q9, hp.box q10 q9, q11, q12, hp.rrow q13 hf⟩
theorem Sh.go (hp : Pres F W W') (ho : ∀ (i : Nat) (o : OS), os[i]? = some o → os'[i]? = some o) (hf : ∀ k, F k → F' k) : ∀ (k : Nat) (v : Vt) (x : RVt) (s : ByteArray), Sh F W os k v x s → Sh F' W' os' k v x s := by
  intro k
  induction k with
  | zero =>
    rintro v x s (h | ⟨h, l, xs, ha⟩)
    · exact .inl (h.go hp ho hf)
    · exact .inr ⟨h, l, xs, ha.go hp ho hf⟩
  | succ k ih =>
    rintro v x s (h | ⟨l, xs, parts, ha, h1, h2, h3, h4⟩)
    · exact .inl (h.go hp ho hf)
    · exact .inr ⟨l, xs, parts, ha.go hp ho hf, h1, h2, fun i y z p a b c => ih _ _ _ (h3 i y z p a b c), h4⟩
end
theorem cls_ne : ∀ (c : Nat) (cn : Int), clsN[c]? = some cn → (cn == 1) = false ∧ (cn == 2) = false ∧ (cn == 12) = false := by
  intro c cn h
  have hi : c < 9 := (List.getElem?_eq_some_iff.1 h).1
  obtain rfl | rfl | rfl | rfl | rfl | rfl | rfl | rfl | rfl : c = 0 ∨ c = 1 ∨ c = 2 ∨ c = 3 ∨ c = 4 ∨ c = 5 ∨ c = 6 ∨ c = 7 ∨ c = 8 := by omega
  all_goals
    cases h
    decide
theorem cls_size : ∀ (c : Nat) (nm : ByteArray), cls[c]? = some nm → nm.size ≤ 100 := by
  intro c cn h
  have hi : c < 9 := (List.getElem?_eq_some_iff.1 h).1
  obtain rfl | rfl | rfl | rfl | rfl | rfl | rfl | rfl | rfl : c = 0 ∨ c = 1 ∨ c = 2 ∨ c = 3 ∨ c = 4 ∨ c = 5 ∨ c = 6 ∨ c = 7 ∨ c = 8 := by omega
  all_goals
    cases h
    decide
section
variable {F : Nat → Prop} {W : World} {h A m : Nat} {f : Nat → Int} {os : List OS}
theorem Y.MM.cell0 (H : Y.MM W h A m f os) : W.cell? ⟨m, 0, none⟩ = some (.pointer (some ⟨h, 0, none⟩)) := H.mb.at_ 0
theorem Y.MM.heap0 (H : Y.MM W h A m f os) : W.cell? ⟨h, 0, none⟩ = some (.pointer (some ⟨A, 0, none⟩)) ∧ h < W.heap.size := by
  obtain ⟨⟨cv, fv, rv, hp⟩, -⟩ := H
  exact ⟨hp.hb.at_ 0, hp.hb.lt⟩
theorem ShB.within (H : Y.MM W h A m f os) (hT : M.Tb W) {v : Vt} {x : RVt} {s : ByteArray} (hs : ShB F W os v x s) (W' : World) (a : Int) (hb : Below W.heap.size W W') : Calls Tryz.prog 28 #[(.pointer (some ⟨m, 0, none⟩)), valV v, .int .i64 a] W' fun e w' => e = .returned (.string s) ∧ Below W'.heap.size W' w' := by
  have H' := H.on hb
  rcases hs with ⟨-, hx, h8, h9, rfl⟩ | ⟨i, b, l, o, rc, rfl, h2, hl, hn, -, -, -, -, -, rfl⟩ | ⟨i, b, cs, c, cn, nm, o, rc, rfl, h2, h3, h4, h5, h6, -, -, -, -, rfl⟩
  · exact within_leaf W' _ _ v hx h8 h9 (hT.on hb)
  · refine within_sym W' _ _ _ rfl _ ⟨fun W2 hb2 => ?_⟩
    have H2 := H'.on hb2
    have hbx : Box W2 b 141 #[.int .i64 7, .int .i64 0, .string (Go.Proofs.YtgdkjkfbknbgkaaGreatDoor.W.strU l)] := H2.ob (b, #[.int .i64 7, .int .i64 0, .string (Go.Proofs.YtgdkjkfbknbgkaaGreatDoor.W.strU l)]) (List.mem_of_getElem? h2)
    have hsz : (goB (Go.Proofs.YtgdkjkfbknbgkaaGreatDoor.W.strU l)).size ≤ 1000000 := by
      have h1 := goB_size (Go.Proofs.YtgdkjkfbknbgkaaGreatDoor.W.strU l)
      have h2 := strU_size l
      omega
    exact symbol_shown W2 m h A b (8, (i : Int) + 1, ⟨#[]⟩) rfl (Go.Proofs.YtgdkjkfbknbgkaaGreatDoor.W.strU l) (goB (Go.Proofs.YtgdkjkfbknbgkaaGreatDoor.W.strU l)) hsz H2.cell0 H2.mb.lt H2.heap0.1 H2.heap0.2 (hbx.at_ 0) (hbx.at_ 2) hbx.lt ⟨fun W3 hb3 => ((H2.on hb3).get i _ h2).mono (fun e w' ⟨he, hw⟩ => ⟨he, hw ▸ Below.refl _ _⟩)⟩ ⟨fun W3 => Go.Proofs.YtgdkjkfbknbgkaaGreatDoor.W.go_at l _ _ ⟨rfl⟩ hl (by omega) ⟨goB_strU l hl⟩ W3⟩
  · refine within_obj W' _ _ _ rfl _ ⟨fun W2 hb2 => ?_⟩
    have H2 := H'.on hb2
    have hbx : Box W2 b 99 cs := by
      have := H2.ob (b, cs) (List.mem_of_getElem? h2)
      rwa [Y.oty_obj h3] at this
    obtain ⟨e1, e2, e12⟩ := cls_ne c cn h4
    have := cls_size c nm h5
    exact printed_class W2 m b (9, (i : Int) + 1, ⟨#[]⟩) (.int .i64 a) cn nm hbx.lt (by rw [hbx.at_ 0]; exact h6) e1 e2 e12 (by omega) ⟨fun W3 hb3 => object_yes m h (9, (i : Int) + 1, ⟨#[]⟩) (H2.on hb3).cell0 (H2.on hb3).mb.lt b ⟨fun W4 hb4 => ((H2.on hb3).on hb4).of_ i (b, cs) h2 h3 ⟨#[]⟩⟩⟩ ⟨fun W3 => class_name c cn nm h4 h5 W3⟩
theorem ArrC.at_ (H : Y.MM W h A m f os) {v : Vt} {x : RVt} {l : List Vt} {xs : List RVt} (hs : ArrC F W os v x l xs) : ArrAt W h v l := by
  obtain ⟨hl, h3, i, b, cs, ev, o, rc, rev, rfl, q2, q3, q4, q5, q6, q7, -⟩ := hs
  refine ⟨rfl, by omega, b, cs, ev, fun W' hb => (H.on hb).obj i (b, cs) q2 q3, ?_, q4, q5, q6⟩
  have := H.ob (b, cs) (List.mem_of_getElem? q2)
  rwa [Y.oty_obj q3] at this
theorem join_len3 (parts : List ByteArray) (h : parts.length ≤ 3) (hp : ∀ p ∈ parts, p.size ≤ 1000000) : (Lib.join (parts.map (·.data.toList)) [44, 32]).length ≤ 3000010 := by
  have sz : ∀ p : ByteArray, p.data.toList.length = p.size := fun p => by rw [Array.length_toList]; rfl
  match parts, h, hp with
  | [], _, _ => simp [Lib.join]
  | [a], _, hp =>
    have := hp a (by simp)
    simp [Lib.join_one, sz]
    omega
  | [a, b], _, hp =>
    have := hp a (by simp)
    have := hp b (by simp)
    simp [Lib.join_cons, Lib.joinTail, sz]
    omega
  | [a, b, c], _, hp =>
    have := hp a (by simp)
    have := hp b (by simp)
    have := hp c (by simp)
    simp [Lib.join_cons, Lib.joinTail, sz]
    omega
theorem Sh.shown (H : Y.MM W h A m f os) (hT : M.Tb W) : ∀ (k : Nat) (v : Vt) (x : RVt) (s : ByteArray), Sh F W os k v x s → Shown W m h k v s := by
  intro k
  induction k with
  | zero =>
    rintro v x s (hs | ⟨hs, l, xs, ha⟩)
    · exact .inl (fun W' a hb => hs.within H hT W' a hb)
    · exact .inr ⟨⟨l, ha.at_ H⟩, hs⟩
  | succ k ih =>
    rintro v x s (hs | ⟨l, xs, parts, ha, h1, h2, h3, h4⟩)
    · exact .inl (fun W' a hb => hs.within H hT W' a hb)
    · refine .inr ⟨l, parts, ha.at_ H, h1, ?_, fun i y p hi hp => ?_, h4⟩
      · have := join_len3 parts (by have := ha.2.1; omega) h2
        omega
      · have hlt : i < xs.length := by
          have := (List.getElem?_eq_some_iff.1 hi).1
          have := ha.1
          omega
        exact ih y xs[i] p (h3 i y xs[i] p hi (List.getElem?_eq_getElem hlt) hp)
theorem ShB.rshow (hT : M.Tb W) {v : Vt} {x : RVt} {s : ByteArray} (hs : ShB F W os v x s) (W' : World) (d : Int) (hd : d ≤ 8) (hb : Below W.heap.size W W') : Calls Tryz.prog 12 #[RV x.1 x.2, .int .i64 d] W' fun e w' => e = .returned (.string s) ∧ Below W'.heap.size W' w' := by
  rcases hs with ⟨rfl, hx, h8, h9, rfl⟩ | ⟨i, b, l, o, rc, rfl, h2, hl, hn, rfl, -, hbx, h4, h6, rfl⟩ | ⟨i, b, cs, c, cn, nm, o, rc, rfl, h2, h3, h4, h5, h6, rfl, -, hbx, h0, rfl⟩
  · exact rshow_lf v d hx h8 h9 W' (hT.on hb)
  · have hbx := hbx.below hb
    exact rshow_sym (8, 0, ⟨#[]⟩) o d rfl (Go.Proofs.YtgdkjkfbknbgkaaGreatDoor.W.strU l) (by rw [strU_size]; omega) W' hbx.lt (by rw [hbx.at_ 4]; exact h4) (by rw [hbx.at_ 6]; exact h6)
  · have hbx := hbx.below hb
    exact rshow_obj (9, 0, ⟨#[]⟩) (some ⟨o, 0, none⟩) d rfl _ W' ⟨fun W2 hb2 => robj_class o nm (List.mem_of_getElem? h5) d hd W2 (by rw [(hbx.below hb2).at_ 0]; exact h0)⟩
theorem accS_size (parts : List ByteArray) (h : parts.length ≤ 3) (hp : ∀ p ∈ parts, p.size ≤ 1000000) (k : Nat) : (accS (parts.take k)).size ≤ 140737488355328 := by
  have := join_len3 (parts.take k) (by rw [List.length_take]; omega) (fun p hpm => hp p (List.mem_of_mem_take hpm))
  show (_ : Array UInt8).size ≤ _
  rw [List.size_toArray, List.length_cons]
  omega
theorem Sh.rshow (hT : M.Tb W) : ∀ (k : Nat) (_ : k ≤ 3) (v : Vt) (x : RVt) (s : ByteArray), Sh F W os k v x s → ∀ W', Below W.heap.size W W' → Calls Tryz.prog 12 #[RV x.1 x.2, .int .i64 ((3 - k : Nat) : Int)] W' fun e w' => e = .returned (.string s) ∧ Below W'.heap.size W' w' := by
  intro k
  induction k with
  | zero =>
    rintro - v x s (hs | ⟨rfl, l, xs, ha⟩) W' hb
    · exact hs.rshow hT W' _ (by omega) hb
    · obtain ⟨hl, h3, i, b, cs, ev, o, rc, rev, rfl, q2, q3, q4, q5, q6, q7, rfl, q9, q10, q11, q12, q13⟩ := ha
      have hbx := q10.below hb
      exact rshow_obj (9, 0, ⟨#[]⟩) (some ⟨o, 0, none⟩) _ rfl _ W' ⟨fun W2 hb2 => robj_deep o _ (by omega) (by omega) W2 (by rw [(hbx.below hb2).at_ 0]; exact q11)⟩
  | succ k ih =>
    rintro hk v x s (hs | ⟨l, xs, parts, ha, h1, h2, h3, rfl⟩) W' hb
    · exact hs.rshow hT W' _ (by omega) hb
    · obtain ⟨hl, hl3, i, b, cs, ev, o, rc, rev, rfl, q2, q3, q4, q5, q6, q7, rfl, q9, q10, q11, q12, q13⟩ := ha
      have hbx := q10.below hb
      refine rshow_obj (9, 0, ⟨#[]⟩) (some ⟨o, 0, none⟩) _ rfl _ W' ⟨fun W2 hb2 => ?_⟩
      have hbw := hb.trans (hb2.mono hb.size)
      have hbx2 := hbx.below hb2
      refine robj_arr o (3 - (k + 1)) (by omega) xs parts (by omega) (by omega) rev W2 hbx2.lt (by rw [hbx2.at_ 0]; exact q11) (by rw [hbx2.at_ 3]; exact q12) ((Pres.on hbw).rrow q13 (fun _ h => h)).row (accS_size parts (by omega) h2) (fun p hp => Nat.le_trans (h2 p hp) (by decide)) (fun j y p hj hp W3 hb3 => ?_)
      have hlt : j < l.length := by
        have := (List.getElem?_eq_some_iff.1 hj).1
        omega
      have := ih (by omega) l[j] y p (h3 j l[j] y p (List.getElem?_eq_getElem hlt) hj hp) W3 (hbw.trans (hb3.mono hbw.size))
      rw [show ((3 - (k + 1) : Nat) : Int) + 1 = ((3 - k : Nat) : Int) by omega]
      exact this
end
end Go.Proofs.YtgdkjkfbknbgkaaGreatDoor
namespace Go.Proofs.YtgdkjkfbknbgkaaGreatDoor
open Go Go.RowKit
attribute [local go_sem] Oper.semAt_some

/-- A part of a plan as it reads. -/
structure PI where
  k : Int
  n : Int
  s : Value
  l : List Nat
/-- A slice value reads as these parts. -/
structure PlA (w : World) (B : Nat) (a : Option Addr) (n : Nat) (l : List PI) : Prop where
  len : l.length = n
  cells : 0 < n → ∃ b o, a = some ⟨b, o, none⟩ ∧ b < B ∧ ∀ (i : Nat) x, l[i]? = some x → w.cell? ⟨b, o + i * 3, none⟩ = some (.int .i64 x.k) ∧ w.cell? ⟨b, o + i * 3 + 1, none⟩ = some (.int .i64 x.n) ∧ w.cell? ⟨b, o + i * 3 + 2, none⟩ = some x.s
  rd : ∀ x ∈ l, (∀ u ∈ x.l, u < 65536) ∧ x.l.length ≤ 1000000000000000 ∧ (-9223372036854775808 ≤ x.k ∧ x.k ≤ 9223372036854775807) ∧ (-9223372036854775808 ≤ x.n ∧ x.n ≤ 9223372036854775807) ∧ ∃ sa c, x.s = .slice sa x.l.length c ∧ (0 < x.l.length → ∃ b o, sa = some ⟨b, o, none⟩ ∧ b < B ∧ ∀ i, i < x.l.length → w.cell? ⟨b, o + i, none⟩ = some (.int .u16 ((x.l[i]?.getD 0 : Nat) : Int)))
theorem PlA.on {w w' : World} {B : Nat} {a : Option Addr} {n : Nat} {l : List PI} (h : PlA w B a n l) (hb : Below B w w') : PlA w' B a n l := by
  have f : ∀ b j, b < B → w'.cell? ⟨b, j, none⟩ = w.cell? ⟨b, j, none⟩ := fun b j hlt => hb.cell (p := ⟨b, j, none⟩) hlt
  refine ⟨h.len, fun hn => ?_, fun x hx => ?_⟩
  · obtain ⟨b, o, e, hlt, hc⟩ := h.cells hn
    refine ⟨b, o, e, hlt, fun i x hi => ?_⟩
    rw [f _ _ hlt, f _ _ hlt, f _ _ hlt]
    exact hc i x hi
  · obtain ⟨h1, h2, h3, h4, sa, c, h5, h6⟩ := h.rd x hx
    refine ⟨h1, h2, h3, h4, sa, c, h5, fun h0 => ?_⟩
    obtain ⟨b, o, e, hlt, hc⟩ := h6 h0
    refine ⟨b, o, e, hlt, fun i hi => ?_⟩
    rw [f _ _ hlt]
    exact hc i hi
theorem PlA.nums {w : World} {B : Nat} {a : Option Addr} {n : Nat} {l : List PI} (h : PlA w B a n l) (hB : B ≤ w.heap.size) (x : PI) (hx : x ∈ l) : ∃ sa c, x.s = .slice sa x.l.length c ∧ W.Nums .u16 w sa x.l.length x.l := by
  obtain ⟨h1, h2, h3, h4, sa, c, h5, h6⟩ := h.rd x hx
  refine ⟨sa, c, h5, rfl, fun h0 => ?_⟩
  obtain ⟨b, o, e, hlt, hc⟩ := h6 h0
  exact ⟨b, o, e, by omega, hc⟩
set_option maxHeartbeats 4000000 in
set_option maxRecDepth 100000 in
theorem light_any (a : Option Addr) (n c : Nat) (l : List PI) (w : World) (h : PlA w w.heap.size a n l) :
    Calls Tryz.prog 8 #[.agg #[.slice a n c]] w fun e w' => ∃ v, e = .returned (.bool v) ∧ Below w.heap.size w w' ∧ (v = true → n ≤ 500 ∧ ∀ x ∈ l, x.l.length ≤ 500) := by
  have HS := Veil.mk h
  clear h
  obtain ⟨pb, hpb⟩ : ∃ pb, w.heap.size = pb := ⟨_, rfl⟩
  obtain ⟨W0, hW0⟩ : ∃ W0, w.alloc (.cells #[.slice a n c] 24) = W0 := ⟨_, rfl⟩
  have b1 := Box.new w 24 #[.slice a n c]
  have bb : Below w.heap.size w (w.alloc (.cells #[.slice a n c] 24)) := (Below.refl _ _).alloc (Nat.le_refl _) _
  rw [hW0] at b1 bb
  rw [hpb] at b1
  have HBB := Veil.mk (And.intro bb b1)
  have HW0 := Veil.mk (And.intro hW0 hpb)
  have x0 : W0.cell? ⟨pb, 0, none⟩ = some (.slice a n c) := b1.at_ 0
  clear hW0 hpb b1 bb
  go_enter Tryz.func8, Tryz.ntmps8
  go_upto_region 1 with (fail)
  rw [HW0.out.1, HW0.out.2]
  go_upto_region 3 with (fail)
  go_loopw [3, 9] (fun sv iv wr => ∃ k S : Nat, k ≤ n ∧ k ≤ S ∧ S ≤ 500 ∧ sv = .int .i64 (S : Int) ∧ iv = .int .i64 (k : Int) ∧ Below w.heap.size w wr ∧ ∀ (i : Nat) x, i < k → l[i]? = some x → x.l.length ≤ 500) (fun _ i _ => n - (intOf i).toNat)
  case atStart => exact ⟨0, 0, Nat.zero_le _, Nat.zero_le _, Nat.zero_le _, rfl, rfl, HBB.out.1, fun i s hi => by omega⟩
  case round =>
    obtain ⟨k, S, hk, hkS, hS, rfl, rfl, hb, hl⟩ := hrel
    have hk0 : (0 : Int) ≤ (k : Int) := by omega
    have hkb : (k : Int) ≤ 500 := by omega
    have hS0 : (0 : Int) ≤ (S : Int) := by omega
    have hSb : (S : Int) ≤ 500 := by omega
    by_cases hlt : k < n
    · have hlt' : (k : Int) < (n : Int) := by omega
      obtain ⟨x, hx⟩ : ∃ x, l[k]? = some x := ⟨_, List.getElem?_eq_getElem (by rw [HS.out.len]; exact hlt)⟩
      obtain ⟨b, o, rfl, hbl, hc⟩ := (HS.out.on hb).cells (by omega)
      obtain ⟨c0, c1, c2⟩ := hc k x hx
      obtain ⟨-, m1, -, -, sa, sc, e1, -⟩ := HS.out.rd x (List.mem_of_getElem? hx)
      rw [e1] at c2
      obtain ⟨x1, hx1⟩ : ∃ y, x.l.length = y := ⟨_, rfl⟩
      obtain ⟨xk, hxk⟩ : ∃ y, x.k = y := ⟨_, rfl⟩
      obtain ⟨xn, hxn⟩ : ∃ y, x.n = y := ⟨_, rfl⟩
      rw [hx1] at c2 m1
      rw [hxk] at c0
      rw [hxn] at c1
      have q1 : (0 : Int) ≤ (x1 : Int) := by omega
      have m1' : (x1 : Int) ≤ 1000000000000000 := by omega
      have hB2 : Below w.heap.size w (wr.alloc (.cells #[.int .i64 xk, .int .i64 xn, .slice sa x1 sc] 82)) := hb.alloc hb.size _
      have HB := Veil.mk hB2
      have HL := Veil.mk (And.intro hl (And.intro hx hx1))
      clear hl hx hx1 hxk hxn hb hc e1 hB2 hbl
      by_cases hbg : 500 < S + (1 + x1)
      · have hbg' : (500 : Int) < (S : Int) + (1 + (x1 : Int)) := by omega
        go_wp2
        go_ret
        exact ⟨false, rfl, HB.out, fun h => by cases h⟩
      · have hbg' : ¬ (500 : Int) < (S : Int) + (1 + (x1 : Int)) := by omega
        go_wp2
        go_roundw
        case rel =>
          refine ⟨k + 1, S + (1 + x1), by omega, by omega, by omega, by go_num, by go_num, HB.out, fun i s' hi hs' => ?_⟩
          obtain ⟨hl, hs, e1⟩ := HL.out
          rcases Nat.lt_or_ge i k with h | h
          · exact hl i s' h hs'
          · obtain rfl : i = k := by omega
            rw [hs] at hs'
            injection hs' with hs'
            subst hs'
            omega
        case measure => simp [intOf]; omega
    · obtain rfl : k = n := by omega
      have hlt' : ¬ (k : Int) < (k : Int) := by omega
      have HB := Veil.mk (And.intro hb hl)
      clear hb hl
      go_wp2
      go_ret
      refine .inr ⟨rfl, HB.out.1, by omega, fun s hs => ?_⟩
      obtain ⟨i, hi, he⟩ := List.getElem_of_mem hs
      exact HB.out.2 i s (by rw [← HS.out.len]; exact hi) (by rw [← he]; exact List.getElem?_eq_getElem hi)
end Go.Proofs.YtgdkjkfbknbgkaaGreatDoor
namespace Go.Proofs.YtgdkjkfbknbgkaaGreatDoor
open Go Go.RowKit
attribute [local go_sem] Oper.semAt_some

def bnd (k : Nat) : Nat := 13000 * 4 ^ k
/-- What a call of grow leaves. -/
def GPost (w : World) (A h m : Nat) (f : Nat → Int) (os : List OS) (n at_ : Nat) (e : Ending) (w' : World) : Prop :=
  ∃ (v : Vt) (x : RVt) (at2 : Nat) (os' : List OS), e = .returned (.tuple #[valV v, RV x.1 x.2, .int .i64 (at2 : Int)]) ∧ Y.MM w' h A m f os' ∧ (∃ ext, os' = os ++ ext) ∧ Below A w w' ∧ Kp arT w w' ∧ at_ ≤ at2 ∧ at2 ≤ n ∧ os'.length + (n - at2) ≤ os.length + (n - at_) ∧ ∀ k, k ≤ 3 → ∃ s, s.size ≤ bnd k ∧ Sh (fun b => w.heap.size ≤ b) w' os' k v x s
theorem bnd_lo (k : Nat) : 13000 ≤ bnd k := by
  unfold bnd
  have : 1 ≤ 4 ^ k := Nat.one_le_pow _ _ (by omega)
  omega
theorem ShB.sh {F : Nat → Prop} {W : World} {os : List OS} {v : Vt} {x : RVt} {s : ByteArray} (h : ShB F W os v x s) (hs : s.size ≤ 13000) (k : Nat) : ∃ s, s.size ≤ bnd k ∧ Sh F W os k v x s :=
  ⟨s, Nat.le_trans hs (bnd_lo k), match k with
    | 0 => .inl h
    | _ + 1 => .inl h⟩
theorem leaf_sh (F : Nat → Prop) (W : World) (os : List OS) (v : Vt) (hx : WV v.1 v.2.1 v.2.2) (h8 : v.1 ≠ 8) (h9 : v.1 ≠ 9) (k : Nat) : ∃ s, s.size ≤ bnd k ∧ Sh F W os k v (v, none) s :=
  ShB.sh (.inl ⟨rfl, hx, h8, h9, rfl⟩) (lfB_size v hx h8 h9) k
theorem frame0 (w W0 : World) (cs : Array Value) (pb vb rb : Nat) (hpb : w.heap.size = pb) (hvb : pb + 1 = vb) (hrb : vb + 1 = rb) (hW0 : ((w.alloc (.cells cs 24)).alloc (.cells #[.int .i64 0, .int .i64 0, .string ⟨#[]⟩] 30)).alloc (.cells #[.int .i64 0, .int .i64 0, .string ⟨#[]⟩, .pointer none] 33) = W0) : Below w.heap.size w W0 ∧ Box W0 pb 24 cs ∧ Box W0 vb 30 #[.int .i64 0, .int .i64 0, .string ⟨#[]⟩] ∧ Box W0 rb 33 #[.int .i64 0, .int .i64 0, .string ⟨#[]⟩, .pointer none] ∧ W0.heap.size = rb + 1 := by
  subst hpb hvb hrb hW0
  refine ⟨(((Below.refl _ _).alloc (Nat.le_refl _) _).alloc (by simp) _).alloc (by simp; omega) _, ((Box.new _ _ _).more _).more _, ?_, ?_, by simp⟩
  · have := (Box.new (w.alloc (.cells cs 24)) 30 #[.int .i64 0, .int .i64 0, .string ⟨#[]⟩]).more (.cells #[.int .i64 0, .int .i64 0, .string ⟨#[]⟩, .pointer none] 33)
    rwa [World.size_alloc] at this
  · have := Box.new ((w.alloc (.cells cs 24)).alloc (.cells #[.int .i64 0, .int .i64 0, .string ⟨#[]⟩] 30)) 33 #[.int .i64 0, .int .i64 0, .string ⟨#[]⟩, .pointer none]
    rwa [World.size_alloc, World.size_alloc] at this
theorem frame1 {w W0 W1 : World} {cs pc : Array Value} {pb vb rb xb k : Nat} (h : Below w.heap.size w W0 ∧ Box W0 pb 24 cs ∧ Box W0 vb 30 #[.int .i64 0, .int .i64 0, .string ⟨#[]⟩] ∧ Box W0 rb 33 #[.int .i64 0, .int .i64 0, .string ⟨#[]⟩, .pointer none] ∧ W0.heap.size = k) (hxb : W0.heap.size = xb) (hW1 : W0.alloc (.cells pc 82) = W1) : Below w.heap.size w W1 ∧ Box W1 pb 24 cs ∧ Box W1 vb 30 #[.int .i64 0, .int .i64 0, .string ⟨#[]⟩] ∧ Box W1 rb 33 #[.int .i64 0, .int .i64 0, .string ⟨#[]⟩, .pointer none] ∧ k = xb ∧ Box W1 xb 82 pc ∧ W1.heap.size = xb + 1 := by
  subst hxb hW1
  obtain ⟨h1, h2, h3, h4, rfl⟩ := h
  exact ⟨h1.alloc h1.size _, h2.more _, h3.more _, h4.more _, rfl, Box.new _ _ _, by simp⟩
abbrev st3 (W : World) (vb : Nat) (v : Vt) : World := ((W.setCell ⟨vb, 0, none⟩ (.int .i64 v.1)).setCell ⟨vb, 1, none⟩ (.int .i64 v.2.1)).setCell ⟨vb, 2, none⟩ (.string v.2.2)
abbrev st4 (W : World) (rb : Nat) (x : RVt) : World := (((W.setCell ⟨rb, 0, none⟩ (.int .i64 x.1.1)).setCell ⟨rb, 1, none⟩ (.int .i64 x.1.2.1)).setCell ⟨rb, 2, none⟩ (.string x.1.2.2)).setCell ⟨rb, 3, none⟩ (.pointer x.2)
abbrev vC (v : Vt) : Array Value := #[.int .i64 v.1, .int .i64 v.2.1, .string v.2.2]
abbrev rC (x : RVt) : Array Value := #[.int .i64 x.1.1, .int .i64 x.1.2.1, .string x.1.2.2, .pointer x.2]
theorem st3_box {W : World} {vb : Nat} {cs : Array Value} (hc : cs.size = 3) (h : Box W vb 30 cs) (v : Vt) : Box (st3 W vb v) vb 30 (vC v) := by
  match cs, hc with
  | ⟨[a, b, c]⟩, _ => exact ((h.put 0 (.int .i64 v.1)).put 1 (.int .i64 v.2.1)).put 2 (.string v.2.2)
theorem st4_box {W : World} {rb : Nat} {cs : Array Value} (hc : cs.size = 4) (h : Box W rb 33 cs) (x : RVt) : Box (st4 W rb x) rb 33 (rC x) := by
  match cs, hc with
  | ⟨[a, b, c, d]⟩, _ => exact (((h.put 0 (.int .i64 x.1.1)).put 1 (.int .i64 x.1.2.1)).put 2 (.string x.1.2.2)).put 3 (.pointer x.2)
theorem st3_touch (W : World) (vb : Nat) (v : Vt) : Touch (fun k => k = vb) W (st3 W vb v) := touch3 _ _ _ _ _
theorem st4_touch (W : World) (rb : Nat) (x : RVt) : Touch (fun k => k = rb) W (st4 W rb x) := (touch3 _ _ _ _ _).trans (Touch.put (S := fun k => k = rb) rfl _ _)
theorem two_st {W : World} {vb rb : Nat} {cv cr : Array Value} (hcv : cv.size = 3) (hcr : cr.size = 4) (hv : Box W vb 30 cv) (hr : Box W rb 33 cr) (v : Vt) (x : RVt) : Box (st4 (st3 W vb v) rb x) vb 30 (vC v) ∧ Box (st4 (st3 W vb v) rb x) rb 33 (rC x) ∧ Touch (fun k => k = vb ∨ k = rb) W (st4 (st3 W vb v) rb x) := by
  have hne : vb ≠ rb := fun e => hv.lab.ne hr.lab (by decide) e
  have h1 := st3_box hcv hv v
  have h2 := hr.touch (st3_touch W vb v) (fun e => hne e.symm)
  exact ⟨h1.touch (st4_touch _ rb x) hne, st4_box hcr h2 x, ((st3_touch W vb v).mono (fun k hk => .inl hk)).trans ((st4_touch _ rb x).mono (fun k hk => .inr hk))⟩
/-- What touches only new blocks. -/
theorem Touch.fresh {S : Nat → Prop} {w W W' : World} (hb : Below w.heap.size w W) (ht : Touch S W W') (hS : ∀ k, S k → w.heap.size ≤ k) : Below w.heap.size w W' := hb.trans (ht.below hb.size hS)
section
variable {w : World} {h A m : Nat} {f : Nat → Int} {os : List OS}
theorem GPost.leaf (H : Y.MM w h A m f os) (n at_ at2 : Nat) (h1 : at_ ≤ at2) (h2 : at2 ≤ n) (v : Vt) (hx : WV v.1 v.2.1 v.2.2) (h8 : v.1 ≠ 8) (h9 : v.1 ≠ 9) (w' : World) (hb : Below w.heap.size w w') : GPost w A h m f os n at_ (.returned (.tuple #[valV v, RV v none, .int .i64 (at2 : Int)])) w' :=
  ⟨v, (v, none), at2, os, rfl, H.on hb, ⟨[], by simp⟩, hb.mono (Nat.le_of_lt H.alt), Kp.of_below hb, h1, h2, by omega, fun k _ => leaf_sh _ w' os v hx h8 h9 k⟩
set_option maxHeartbeats 1000000 in
set_option maxRecDepth 100000 in
theorem grow_end (H : Y.MM w h A m f os) (a : Option Addr) (n c : Nat) (hn5 : n ≤ 500) (at_ dp : Nat) (hat : n = at_) : Calls Tryz.prog 10 #[(.pointer (some ⟨m, 0, none⟩)), .agg #[.slice a n c], .int .i64 (at_ : Int), .int .i64 (dp : Int)] w (GPost w A h m f os n at_) := by
  subst hat
  obtain ⟨pb, hpb⟩ : ∃ pb, w.heap.size = pb := ⟨_, rfl⟩
  obtain ⟨vb, hvb⟩ : ∃ vb, pb + 1 = vb := ⟨_, rfl⟩
  obtain ⟨rb, hrb⟩ : ∃ rb, vb + 1 = rb := ⟨_, rfl⟩
  obtain ⟨W0, hW0⟩ : ∃ W0, ((w.alloc (.cells #[.slice a n c] 24)).alloc (.cells #[.int .i64 0, .int .i64 0, .string ⟨#[]⟩] 30)).alloc (.cells #[.int .i64 0, .int .i64 0, .string ⟨#[]⟩, .pointer none] 33) = W0 := ⟨_, rfl⟩
  have bx := frame0 w W0 #[.slice a n c] pb vb rb hpb hvb hrb hW0
  have HW0 := Veil.mk (And.intro hW0 (And.intro hpb (And.intro hvb hrb)))
  have x0 : W0.cell? ⟨pb, 0, none⟩ = some (.slice a n c) := bx.2.1.at_ 0
  have HX := Veil.mk (And.intro H bx)
  have hge : (n : Int) ≤ (n : Int) := by omega
  have ha0 : (0 : Int) ≤ (n : Int) := by omega
  have han : (n : Int) ≤ 500 := by omega
  have v0 : W0.cell? ⟨vb, 0, none⟩ = some (.int .i64 0) := bx.2.2.1.at_ 0
  have v1 : W0.cell? ⟨vb, 1, none⟩ = some (.int .i64 0) := bx.2.2.1.at_ 1
  have v2 : W0.cell? ⟨vb, 2, none⟩ = some (.string ⟨#[]⟩) := bx.2.2.1.at_ 2
  have r0 : W0.cell? ⟨rb, 0, none⟩ = some (.int .i64 0) := bx.2.2.2.1.at_ 0
  have r1 : W0.cell? ⟨rb, 1, none⟩ = some (.int .i64 0) := bx.2.2.2.1.at_ 1
  have r2 : W0.cell? ⟨rb, 2, none⟩ = some (.string ⟨#[]⟩) := bx.2.2.2.1.at_ 2
  have r3 : W0.cell? ⟨rb, 3, none⟩ = some (.pointer none) := bx.2.2.2.1.at_ 3
  have f0 := bx.2.2.1.free 0
  have f1 := bx.2.2.1.free 1
  have f2 := bx.2.2.1.free 2
  have g0 := bx.2.2.2.1.free 0
  have g1 := bx.2.2.2.1.free 1
  have g2 := bx.2.2.2.1.free 2
  have g3 := bx.2.2.2.1.free 3
  clear H bx hW0 hpb hvb hrb
  go_enter Tryz.func10, Tryz.ntmps10
  go_upto_region 1 with (fail)
  rw [HW0.out.1, HW0.out.2.1, HW0.out.2.2.1, HW0.out.2.2.2]
  skip
  have hvr : (vb = rb) = False := by simp; have := HW0.out; omega
  have hrv : (rb = vb) = False := by simp; have := HW0.out; omega
  go_wp2
  clear v0 v1 v2 r0 r1 r2 r3 f0 f1 f2 g0 g1 g2 g3
  have hx := HX.out
  obtain ⟨q1, q2, q3⟩ := two_st rfl rfl hx.2.2.2.1 hx.2.2.2.2.1 (0, 0, ⟨#[]⟩) ((0, 0, ⟨#[]⟩), none)
  have y0 := q1.at_ 0
  have y1 := q1.at_ 1
  have y2 := q1.at_ 2
  have z0 := q2.at_ 0
  have z1 := q2.at_ 1
  have z2 := q2.at_ 2
  have z3 := q2.at_ 3
  exact bodyPost_ret (v := .tuple #[valV (0, 0, ⟨#[]⟩), RV (0, 0, ⟨#[]⟩) none, .int .i64 (n : Int)]) (by simp [results, Tryz.results10, go_sem, y0, y1, y2, z0, z1, z2, z3]) rfl (GPost.leaf hx.1 n n n (Nat.le_refl _) (Nat.le_refl _) (0, 0, ⟨#[]⟩) (.inl ⟨.inl rfl, rfl, rfl⟩) (by decide) (by decide) _ (Touch.fresh hx.2.1 q3 (fun k hk => by have := HW0.out; omega)))
set_option maxHeartbeats 2000000 in
set_option maxRecDepth 100000 in
theorem grow_plain (H : Y.MM w h A m f os) (a : Option Addr) (n c : Nat) (ps : List PI) (B : Nat) (HP : PlA w B a n ps) (hBA : B ≤ A) (hn5 : n ≤ 500) (at_ dp : Nat) {x : PI} (hx : ps[at_]? = some x) (r : Nat) (hx1 : (x.k.tmod 12 + 12).tmod 12 = (r : Int)) (hx2 : (x.k.tmod 12 + 12) % 12 = (r : Int)) (hx3 : 0 < x.k.tmod 12 + 12) (hx4 : x.k.tmod 12 < 12) (hr : r = 0 ∨ r = 1 ∨ r = 4 ∨ r = 6 ∨ r = 10) : Calls Tryz.prog 10 #[(.pointer (some ⟨m, 0, none⟩)), .agg #[.slice a n c], .int .i64 (at_ : Int), .int .i64 (dp : Int)] w (GPost w A h m f os n at_) := by
  obtain ⟨pb, hpb⟩ : ∃ pb, w.heap.size = pb := ⟨_, rfl⟩
  obtain ⟨vb, hvb⟩ : ∃ vb, pb + 1 = vb := ⟨_, rfl⟩
  obtain ⟨rb, hrb⟩ : ∃ rb, vb + 1 = rb := ⟨_, rfl⟩
  obtain ⟨W0, hW0⟩ : ∃ W0, ((w.alloc (.cells #[.slice a n c] 24)).alloc (.cells #[.int .i64 0, .int .i64 0, .string ⟨#[]⟩] 30)).alloc (.cells #[.int .i64 0, .int .i64 0, .string ⟨#[]⟩, .pointer none] 33) = W0 := ⟨_, rfl⟩
  have bx := frame0 w W0 #[.slice a n c] pb vb rb hpb hvb hrb hW0
  have HW0 := Veil.mk (And.intro hW0 (And.intro hpb (And.intro hvb hrb)))
  have x0 : W0.cell? ⟨pb, 0, none⟩ = some (.slice a n c) := bx.2.1.at_ 0
  have hmem := List.mem_of_getElem? hx
  have hlt0 : at_ < n := by have := (List.getElem?_eq_some_iff.1 hx).1; have := HP.len; omega
  have HP0 := HP.on (bx.1.mono (Nat.le_of_lt (Nat.lt_of_le_of_lt hBA H.alt)))
  obtain ⟨pa, po, rfl, hpl, hpc⟩ := HP0.cells (by omega)
  obtain ⟨c0, c1, c2⟩ := hpc at_ x hx
  obtain ⟨-, -, -, ⟨hn1, hn2⟩, sa, sc, e1, -⟩ := HP.rd x hmem
  rw [e1] at c2
  obtain ⟨xl, hxl⟩ : ∃ y, x.l.length = y := ⟨_, rfl⟩
  obtain ⟨xk, hxk⟩ : ∃ y, x.k = y := ⟨_, rfl⟩
  obtain ⟨xn, hxn⟩ : ∃ y, x.n = y := ⟨_, rfl⟩
  rw [hxl] at c2
  rw [hxk] at c0 hx1 hx2 hx3 hx4
  rw [hxn] at c1 hn1 hn2
  have hge : ¬ (n : Int) ≤ (at_ : Int) := by omega
  have hat : (at_ : Int) < (n : Int) := by omega
  have ha0 : (0 : Int) ≤ (at_ : Int) := by omega
  have han : (at_ : Int) ≤ 500 := by omega
  obtain ⟨xb, hxb⟩ : ∃ xb, W0.heap.size = xb := ⟨_, rfl⟩
  obtain ⟨W1, hW1⟩ : ∃ W1, W0.alloc (.cells #[.int .i64 xk, .int .i64 xn, .slice sa xl sc] 82) = W1 := ⟨_, rfl⟩
  have bz := frame1 bx hxb hW1
  have HW1 := Veil.mk (And.intro hW1 hxb)
  have y0 : W1.cell? ⟨xb, 0, none⟩ = some (.int .i64 xk) := bz.2.2.2.2.2.1.at_ 0
  have y1 : W1.cell? ⟨xb, 1, none⟩ = some (.int .i64 xn) := bz.2.2.2.2.2.1.at_ 1
  have y2 : W1.cell? ⟨xb, 2, none⟩ = some (.slice sa xl sc) := bz.2.2.2.2.2.1.at_ 2
  have p0 : W1.cell? ⟨pb, 0, none⟩ = some (.slice (some ⟨pa, po, none⟩) n c) := bz.2.1.at_ 0
  have HX := Veil.mk (And.intro H bz)
  have HQ := Veil.mk (And.intro HP (And.intro hmem (And.intro e1 (And.intro hxl (And.intro hxk hxn)))))
  have v0 : W1.cell? ⟨vb, 0, none⟩ = some (.int .i64 0) := bz.2.2.1.at_ 0
  have v1 : W1.cell? ⟨vb, 1, none⟩ = some (.int .i64 0) := bz.2.2.1.at_ 1
  have v2 : W1.cell? ⟨vb, 2, none⟩ = some (.string ⟨#[]⟩) := bz.2.2.1.at_ 2
  have r0 : W1.cell? ⟨rb, 0, none⟩ = some (.int .i64 0) := bz.2.2.2.1.at_ 0
  have r1 : W1.cell? ⟨rb, 1, none⟩ = some (.int .i64 0) := bz.2.2.2.1.at_ 1
  have r2 : W1.cell? ⟨rb, 2, none⟩ = some (.string ⟨#[]⟩) := bz.2.2.2.1.at_ 2
  have r3 : W1.cell? ⟨rb, 3, none⟩ = some (.pointer none) := bz.2.2.2.1.at_ 3
  have f0 := bz.2.2.1.free 0
  have f1 := bz.2.2.1.free 1
  have f2 := bz.2.2.1.free 2
  have g0 := bz.2.2.2.1.free 0
  have g1 := bz.2.2.2.1.free 1
  have g2 := bz.2.2.2.1.free 2
  have g3 := bz.2.2.2.1.free 3
  have hvr : (vb = rb) = False := by simp; have := HW0.out; omega
  have hrv : (rb = vb) = False := by simp; have := HW0.out; omega
  have hxt : (x.k.tmod 12 + 12) = (x.k.tmod 12 + 12) := rfl
  clear hxt
  obtain ⟨ri, hri⟩ : ∃ ri : Int, (r : Int) = ri := ⟨_, rfl⟩
  rw [hri] at hx1 hx2
  have hr : ri = 0 ∨ ri = 1 ∨ ri = 4 ∨ ri = 6 ∨ ri = 10 := by omega
  clear hri hge
  have hge : ¬ (n : Int) ≤ (at_ : Int) := by omega
  have hpl9 : True := trivial
  clear H bx bz hW0 hpb hvb hrb HP hW1 hxb HP0 hpc hx hxk hxn hxl hpl hmem e1
  rcases hr with rfl | rfl | rfl | rfl | rfl
  · go_enter Tryz.func10, Tryz.ntmps10
    go_upto_region 1 with (fail)
    rw [HW0.out.1, HW0.out.2.1, HW0.out.2.2.1, HW0.out.2.2.2]
    go_upto_region 4 with (fail)
    rw [HW1.out.1, HW1.out.2]
    clear c0 c1 c2 x0 hge hpl9
    go_wp2
    clear v0 v1 v2 r0 r1 r2 r3 f0 f1 f2 g0 g1 g2 g3 y0 y1 y2 p0
    have hx := HX.out
    have hlo : w.heap.size ≤ vb ∧ w.heap.size ≤ rb := by have := HW0.out.2; omega
    obtain ⟨q1, q2, q3⟩ := two_st rfl rfl hx.2.2.2.1 hx.2.2.2.2.1 (0, 0, ⟨#[]⟩) ((0, 0, ⟨#[]⟩), none)
    have y0 := q1.at_ 0
    have y1 := q1.at_ 1
    have y2 := q1.at_ 2
    have z0 := q2.at_ 0
    have z1 := q2.at_ 1
    have z2 := q2.at_ 2
    have z3 := q2.at_ 3
    exact bodyPost_ret (v := .tuple #[valV (0, 0, ⟨#[]⟩), RV (0, 0, ⟨#[]⟩) none, .int .i64 ((at_ + 1 : Nat) : Int)]) (by simp [results, Tryz.results10, go_sem, y0, y1, y2, z0, z1, z2, z3]) rfl (GPost.leaf hx.1 n at_ (at_ + 1) (by omega) (by omega) (0, 0, ⟨#[]⟩) (.inl ⟨.inl rfl, rfl, rfl⟩) (by decide) (by decide) _ (Touch.fresh hx.2.1 q3 (fun k hk => by rcases hk with rfl | rfl; exact hlo.1; exact hlo.2)))
  · go_enter Tryz.func10, Tryz.ntmps10
    go_upto_region 1 with (fail)
    rw [HW0.out.1, HW0.out.2.1, HW0.out.2.2.1, HW0.out.2.2.2]
    go_upto_region 4 with (fail)
    rw [HW1.out.1, HW1.out.2]
    clear c0 c1 c2 x0 hge hpl9
    go_wp2
    clear v0 v1 v2 r0 r1 r2 r3 f0 f1 f2 g0 g1 g2 g3 y0 y1 y2 p0
    have hx := HX.out
    have hlo : w.heap.size ≤ vb ∧ w.heap.size ≤ rb := by have := HW0.out.2; omega
    obtain ⟨q1, q2, q3⟩ := two_st rfl rfl hx.2.2.2.1 hx.2.2.2.2.1 (1, 0, ⟨#[]⟩) ((1, 0, ⟨#[]⟩), none)
    have y0 := q1.at_ 0
    have y1 := q1.at_ 1
    have y2 := q1.at_ 2
    have z0 := q2.at_ 0
    have z1 := q2.at_ 1
    have z2 := q2.at_ 2
    have z3 := q2.at_ 3
    exact bodyPost_ret (v := .tuple #[valV (1, 0, ⟨#[]⟩), RV (1, 0, ⟨#[]⟩) none, .int .i64 ((at_ + 1 : Nat) : Int)]) (by simp [results, Tryz.results10, go_sem, y0, y1, y2, z0, z1, z2, z3]) rfl (GPost.leaf hx.1 n at_ (at_ + 1) (by omega) (by omega) (1, 0, ⟨#[]⟩) (.inl ⟨.inr (.inl rfl), rfl, rfl⟩) (by decide) (by decide) _ (Touch.fresh hx.2.1 q3 (fun k hk => by rcases hk with rfl | rfl; exact hlo.1; exact hlo.2)))
  · go_enter Tryz.func10, Tryz.ntmps10
    go_upto_region 1 with (fail)
    rw [HW0.out.1, HW0.out.2.1, HW0.out.2.2.1, HW0.out.2.2.2]
    go_upto_region 4 with (fail)
    rw [HW1.out.1, HW1.out.2]
    clear c0 c1 c2 x0 hge hpl9
    go_wp2
    clear v0 v1 v2 r0 r1 r2 r3 f0 f1 f2 g0 g1 g2 g3 y0 y1 y2 p0
    have hx := HX.out
    have hlo : w.heap.size ≤ vb ∧ w.heap.size ≤ rb := by have := HW0.out.2; omega
    obtain ⟨q1, q2, q3⟩ := two_st rfl rfl hx.2.2.2.1 hx.2.2.2.2.1 (4, 0, ⟨#[]⟩) ((4, 0, ⟨#[]⟩), none)
    have y0 := q1.at_ 0
    have y1 := q1.at_ 1
    have y2 := q1.at_ 2
    have z0 := q2.at_ 0
    have z1 := q2.at_ 1
    have z2 := q2.at_ 2
    have z3 := q2.at_ 3
    exact bodyPost_ret (v := .tuple #[valV (4, 0, ⟨#[]⟩), RV (4, 0, ⟨#[]⟩) none, .int .i64 ((at_ + 1 : Nat) : Int)]) (by simp [results, Tryz.results10, go_sem, y0, y1, y2, z0, z1, z2, z3]) rfl (GPost.leaf hx.1 n at_ (at_ + 1) (by omega) (by omega) (4, 0, ⟨#[]⟩) (.inr (.inr (.inl ⟨.inl ⟨rfl, rfl⟩, rfl⟩))) (by decide) (by decide) _ (Touch.fresh hx.2.1 q3 (fun k hk => by rcases hk with rfl | rfl; exact hlo.1; exact hlo.2)))
  · go_enter Tryz.func10, Tryz.ntmps10
    go_upto_region 1 with (fail)
    rw [HW0.out.1, HW0.out.2.1, HW0.out.2.2.1, HW0.out.2.2.2]
    go_upto_region 4 with (fail)
    rw [HW1.out.1, HW1.out.2]
    clear c0 c1 c2 x0 hge hpl9
    go_wp2
    clear v0 v1 v2 r0 r1 r2 r3 f0 f1 f2 g0 g1 g2 g3 y0 y1 y2 p0
    have hx := HX.out
    have hlo : w.heap.size ≤ vb ∧ w.heap.size ≤ rb := by have := HW0.out.2; omega
    obtain ⟨q1, q2, q3⟩ := two_st rfl rfl hx.2.2.2.1 hx.2.2.2.2.1 (6, 0, ⟨#[]⟩) ((6, 0, ⟨#[]⟩), none)
    have y0 := q1.at_ 0
    have y1 := q1.at_ 1
    have y2 := q1.at_ 2
    have z0 := q2.at_ 0
    have z1 := q2.at_ 1
    have z2 := q2.at_ 2
    have z3 := q2.at_ 3
    exact bodyPost_ret (v := .tuple #[valV (6, 0, ⟨#[]⟩), RV (6, 0, ⟨#[]⟩) none, .int .i64 ((at_ + 1 : Nat) : Int)]) (by simp [results, Tryz.results10, go_sem, y0, y1, y2, z0, z1, z2, z3]) rfl (GPost.leaf hx.1 n at_ (at_ + 1) (by omega) (by omega) (6, 0, ⟨#[]⟩) (.inr (.inr (.inl ⟨.inr (.inr (.inr (.inl ⟨rfl, rfl⟩))), rfl⟩))) (by decide) (by decide) _ (Touch.fresh hx.2.1 q3 (fun k hk => by rcases hk with rfl | rfl; exact hlo.1; exact hlo.2)))
  · go_enter Tryz.func10, Tryz.ntmps10
    go_upto_region 1 with (fail)
    rw [HW0.out.1, HW0.out.2.1, HW0.out.2.2.1, HW0.out.2.2.2]
    go_upto_region 4 with (fail)
    rw [HW1.out.1, HW1.out.2]
    clear c0 c1 c2 x0 hge hpl9
    go_wp2
    clear v0 v1 v2 r0 r1 r2 r3 f0 f1 f2 g0 g1 g2 g3 y0 y1 y2 p0
    have hx := HX.out
    have hlo : w.heap.size ≤ vb ∧ w.heap.size ≤ rb := by have := HW0.out.2; omega
    obtain ⟨q1, q2, q3⟩ := two_st rfl rfl hx.2.2.2.1 hx.2.2.2.2.1 (10, 0, ⟨#[]⟩) ((10, 0, ⟨#[]⟩), none)
    have y0 := q1.at_ 0
    have y1 := q1.at_ 1
    have y2 := q1.at_ 2
    have z0 := q2.at_ 0
    have z1 := q2.at_ 1
    have z2 := q2.at_ 2
    have z3 := q2.at_ 3
    exact bodyPost_ret (v := .tuple #[valV (10, 0, ⟨#[]⟩), RV (10, 0, ⟨#[]⟩) none, .int .i64 ((at_ + 1 : Nat) : Int)]) (by simp [results, Tryz.results10, go_sem, y0, y1, y2, z0, z1, z2, z3]) rfl (GPost.leaf hx.1 n at_ (at_ + 1) (by omega) (by omega) (10, 0, ⟨#[]⟩) (.inl ⟨.inr (.inr rfl), rfl, rfl⟩) (by decide) (by decide) _ (Touch.fresh hx.2.1 q3 (fun k hk => by rcases hk with rfl | rfl; exact hlo.1; exact hlo.2)))
end
end Go.Proofs.YtgdkjkfbknbgkaaGreatDoor
namespace Go.Proofs.YtgdkjkfbknbgkaaGreatDoor
open Go Go.RowKit
attribute [local go_sem] Oper.semAt_some

section
variable {w : World} {h A m : Nat} {f : Nat → Int} {os : List OS}
set_option maxHeartbeats 2000000 in
set_option maxRecDepth 100000 in
theorem grow_int (H : Y.MM w h A m f os) (a : Option Addr) (n c : Nat) (ps : List PI) (B : Nat) (HP : PlA w B a n ps) (hBA : B ≤ A) (hn5 : n ≤ 500) (at_ dp : Nat) {x : PI} (hx : ps[at_]? = some x) (hx1 : (x.k.tmod 12 + 12).tmod 12 = 3) (hx2 : (x.k.tmod 12 + 12) % 12 = 3) (hx3 : 0 < x.k.tmod 12 + 12) (hx4 : x.k.tmod 12 < 12) : Calls Tryz.prog 10 #[(.pointer (some ⟨m, 0, none⟩)), .agg #[.slice a n c], .int .i64 (at_ : Int), .int .i64 (dp : Int)] w (GPost w A h m f os n at_) := by
  obtain ⟨pb, hpb⟩ : ∃ pb, w.heap.size = pb := ⟨_, rfl⟩
  obtain ⟨vb, hvb⟩ : ∃ vb, pb + 1 = vb := ⟨_, rfl⟩
  obtain ⟨rb, hrb⟩ : ∃ rb, vb + 1 = rb := ⟨_, rfl⟩
  obtain ⟨W0, hW0⟩ : ∃ W0, ((w.alloc (.cells #[.slice a n c] 24)).alloc (.cells #[.int .i64 0, .int .i64 0, .string ⟨#[]⟩] 30)).alloc (.cells #[.int .i64 0, .int .i64 0, .string ⟨#[]⟩, .pointer none] 33) = W0 := ⟨_, rfl⟩
  have bx := frame0 w W0 #[.slice a n c] pb vb rb hpb hvb hrb hW0
  have HW0 := Veil.mk (And.intro hW0 (And.intro hpb (And.intro hvb hrb)))
  have x0 : W0.cell? ⟨pb, 0, none⟩ = some (.slice a n c) := bx.2.1.at_ 0
  have hmem := List.mem_of_getElem? hx
  have hlt0 : at_ < n := by have := (List.getElem?_eq_some_iff.1 hx).1; have := HP.len; omega
  have HP0 := HP.on (bx.1.mono (Nat.le_of_lt (Nat.lt_of_le_of_lt hBA H.alt)))
  obtain ⟨pa, po, rfl, hpl, hpc⟩ := HP0.cells (by omega)
  obtain ⟨c0, c1, c2⟩ := hpc at_ x hx
  obtain ⟨-, -, -, ⟨hn1, hn2⟩, sa, sc, e1, -⟩ := HP.rd x hmem
  rw [e1] at c2
  obtain ⟨xl, hxl⟩ : ∃ y, x.l.length = y := ⟨_, rfl⟩
  obtain ⟨xk, hxk⟩ : ∃ y, x.k = y := ⟨_, rfl⟩
  obtain ⟨xn, hxn⟩ : ∃ y, x.n = y := ⟨_, rfl⟩
  rw [hxl] at c2
  rw [hxk] at c0 hx1 hx2 hx3 hx4
  rw [hxn] at c1 hn1 hn2
  have hge : ¬ (n : Int) ≤ (at_ : Int) := by omega
  have hat : (at_ : Int) < (n : Int) := by omega
  have ha0 : (0 : Int) ≤ (at_ : Int) := by omega
  have han : (at_ : Int) ≤ 500 := by omega
  obtain ⟨xb, hxb⟩ : ∃ xb, W0.heap.size = xb := ⟨_, rfl⟩
  obtain ⟨W1, hW1⟩ : ∃ W1, W0.alloc (.cells #[.int .i64 xk, .int .i64 xn, .slice sa xl sc] 82) = W1 := ⟨_, rfl⟩
  have bz := frame1 bx hxb hW1
  have HW1 := Veil.mk (And.intro hW1 hxb)
  have y0 : W1.cell? ⟨xb, 0, none⟩ = some (.int .i64 xk) := bz.2.2.2.2.2.1.at_ 0
  have y1 : W1.cell? ⟨xb, 1, none⟩ = some (.int .i64 xn) := bz.2.2.2.2.2.1.at_ 1
  have y2 : W1.cell? ⟨xb, 2, none⟩ = some (.slice sa xl sc) := bz.2.2.2.2.2.1.at_ 2
  have p0 : W1.cell? ⟨pb, 0, none⟩ = some (.slice (some ⟨pa, po, none⟩) n c) := bz.2.1.at_ 0
  have HX := Veil.mk (And.intro H bz)
  have HQ := Veil.mk (And.intro HP (And.intro hmem (And.intro e1 (And.intro hxl (And.intro hxk hxn)))))
  have v0 : W1.cell? ⟨vb, 0, none⟩ = some (.int .i64 0) := bz.2.2.1.at_ 0
  have v1 : W1.cell? ⟨vb, 1, none⟩ = some (.int .i64 0) := bz.2.2.1.at_ 1
  have v2 : W1.cell? ⟨vb, 2, none⟩ = some (.string ⟨#[]⟩) := bz.2.2.1.at_ 2
  have r0 : W1.cell? ⟨rb, 0, none⟩ = some (.int .i64 0) := bz.2.2.2.1.at_ 0
  have r1 : W1.cell? ⟨rb, 1, none⟩ = some (.int .i64 0) := bz.2.2.2.1.at_ 1
  have r2 : W1.cell? ⟨rb, 2, none⟩ = some (.string ⟨#[]⟩) := bz.2.2.2.1.at_ 2
  have r3 : W1.cell? ⟨rb, 3, none⟩ = some (.pointer none) := bz.2.2.2.1.at_ 3
  have f0 := bz.2.2.1.free 0
  have f1 := bz.2.2.1.free 1
  have f2 := bz.2.2.1.free 2
  have g0 := bz.2.2.2.1.free 0
  have g1 := bz.2.2.2.1.free 1
  have g2 := bz.2.2.2.1.free 2
  have g3 := bz.2.2.2.1.free 3
  have hvr : (vb = rb) = False := by simp; have := HW0.out; omega
  have hrv : (rb = vb) = False := by simp; have := HW0.out; omega
  clear hge
  have hge : ¬ (n : Int) ≤ (at_ : Int) := by omega
  have hpl9 : True := trivial
  obtain ⟨hr1, hr2⟩ := tmod_bd xn 9007199254740992 (by decide)
  clear H bx bz hW0 hpb hvb hrb HP hW1 hxb HP0 hpc hx hxk hxn hxl hpl hmem e1
  go_enter Tryz.func10, Tryz.ntmps10
  go_upto_region 1 with (fail)
  rw [HW0.out.1, HW0.out.2.1, HW0.out.2.2.1, HW0.out.2.2.2]
  go_upto_region 4 with (fail)
  rw [HW1.out.1, HW1.out.2]
  clear c0 c1 c2 x0 hge hpl9
  go_wp2
  clear v0 v1 v2 r0 r1 r2 r3 f0 f1 f2 g0 g1 g2 g3 y0 y1 y2 p0
  have hx := HX.out
  have hlo : w.heap.size ≤ vb ∧ w.heap.size ≤ rb := by have := HW0.out.2; omega
  obtain ⟨q, hq⟩ : ∃ q, xn.tmod 9007199254740992 = q := ⟨_, rfl⟩
  rw [hq] at hr1 hr2 ⊢
  obtain ⟨q1, q2, q3⟩ := two_st rfl rfl hx.2.2.2.1 hx.2.2.2.2.1 (3, q, ⟨#[]⟩) ((3, q, ⟨#[]⟩), none)
  have y0 := q1.at_ 0
  have y1 := q1.at_ 1
  have y2 := q1.at_ 2
  have z0 := q2.at_ 0
  have z1 := q2.at_ 1
  have z2 := q2.at_ 2
  have z3 := q2.at_ 3
  exact bodyPost_ret (v := .tuple #[valV (3, q, ⟨#[]⟩), RV (3, q, ⟨#[]⟩) none, .int .i64 ((at_ + 1 : Nat) : Int)]) (by simp [results, Tryz.results10, go_sem, y0, y1, y2, z0, z1, z2, z3]) rfl (GPost.leaf hx.1 n at_ (at_ + 1) (by omega) (by omega) (3, q, ⟨#[]⟩) (.inr (.inr (.inl ⟨.inr (.inr (.inr (.inr ⟨rfl, by show -9007199254740991 ≤ q; omega, by show q ≤ 9007199254740991; omega⟩))), rfl⟩))) (by show (3 : Int) ≠ 8; decide) (by show (3 : Int) ≠ 9; decide) _ (Touch.fresh hx.2.1 q3 (fun k hk => by rcases hk with rfl | rfl; exact hlo.1; exact hlo.2)))
set_option maxHeartbeats 2000000 in
set_option maxRecDepth 100000 in
theorem grow_inf (H : Y.MM w h A m f os) (a : Option Addr) (n c : Nat) (ps : List PI) (B : Nat) (HP : PlA w B a n ps) (hBA : B ≤ A) (hn5 : n ≤ 500) (at_ dp : Nat) {x : PI} (hx : ps[at_]? = some x) (hx1 : (x.k.tmod 12 + 12).tmod 12 = 5) (hx2 : (x.k.tmod 12 + 12) % 12 = 5) (hx3 : 0 < x.k.tmod 12 + 12) (hx4 : x.k.tmod 12 < 12) : Calls Tryz.prog 10 #[(.pointer (some ⟨m, 0, none⟩)), .agg #[.slice a n c], .int .i64 (at_ : Int), .int .i64 (dp : Int)] w (GPost w A h m f os n at_) := by
  obtain ⟨pb, hpb⟩ : ∃ pb, w.heap.size = pb := ⟨_, rfl⟩
  obtain ⟨vb, hvb⟩ : ∃ vb, pb + 1 = vb := ⟨_, rfl⟩
  obtain ⟨rb, hrb⟩ : ∃ rb, vb + 1 = rb := ⟨_, rfl⟩
  obtain ⟨W0, hW0⟩ : ∃ W0, ((w.alloc (.cells #[.slice a n c] 24)).alloc (.cells #[.int .i64 0, .int .i64 0, .string ⟨#[]⟩] 30)).alloc (.cells #[.int .i64 0, .int .i64 0, .string ⟨#[]⟩, .pointer none] 33) = W0 := ⟨_, rfl⟩
  have bx := frame0 w W0 #[.slice a n c] pb vb rb hpb hvb hrb hW0
  have HW0 := Veil.mk (And.intro hW0 (And.intro hpb (And.intro hvb hrb)))
  have x0 : W0.cell? ⟨pb, 0, none⟩ = some (.slice a n c) := bx.2.1.at_ 0
  have hmem := List.mem_of_getElem? hx
  have hlt0 : at_ < n := by have := (List.getElem?_eq_some_iff.1 hx).1; have := HP.len; omega
  have HP0 := HP.on (bx.1.mono (Nat.le_of_lt (Nat.lt_of_le_of_lt hBA H.alt)))
  obtain ⟨pa, po, rfl, hpl, hpc⟩ := HP0.cells (by omega)
  obtain ⟨c0, c1, c2⟩ := hpc at_ x hx
  obtain ⟨-, -, -, ⟨hn1, hn2⟩, sa, sc, e1, -⟩ := HP.rd x hmem
  rw [e1] at c2
  obtain ⟨xl, hxl⟩ : ∃ y, x.l.length = y := ⟨_, rfl⟩
  obtain ⟨xk, hxk⟩ : ∃ y, x.k = y := ⟨_, rfl⟩
  obtain ⟨xn, hxn⟩ : ∃ y, x.n = y := ⟨_, rfl⟩
  rw [hxl] at c2
  rw [hxk] at c0 hx1 hx2 hx3 hx4
  rw [hxn] at c1 hn1 hn2
  have hge : ¬ (n : Int) ≤ (at_ : Int) := by omega
  have hat : (at_ : Int) < (n : Int) := by omega
  have ha0 : (0 : Int) ≤ (at_ : Int) := by omega
  have han : (at_ : Int) ≤ 500 := by omega
  obtain ⟨xb, hxb⟩ : ∃ xb, W0.heap.size = xb := ⟨_, rfl⟩
  obtain ⟨W1, hW1⟩ : ∃ W1, W0.alloc (.cells #[.int .i64 xk, .int .i64 xn, .slice sa xl sc] 82) = W1 := ⟨_, rfl⟩
  have bz := frame1 bx hxb hW1
  have HW1 := Veil.mk (And.intro hW1 hxb)
  have y0 : W1.cell? ⟨xb, 0, none⟩ = some (.int .i64 xk) := bz.2.2.2.2.2.1.at_ 0
  have y1 : W1.cell? ⟨xb, 1, none⟩ = some (.int .i64 xn) := bz.2.2.2.2.2.1.at_ 1
  have y2 : W1.cell? ⟨xb, 2, none⟩ = some (.slice sa xl sc) := bz.2.2.2.2.2.1.at_ 2
  have p0 : W1.cell? ⟨pb, 0, none⟩ = some (.slice (some ⟨pa, po, none⟩) n c) := bz.2.1.at_ 0
  have HX := Veil.mk (And.intro H bz)
  have HQ := Veil.mk (And.intro HP (And.intro hmem (And.intro e1 (And.intro hxl (And.intro hxk hxn)))))
  have v0 : W1.cell? ⟨vb, 0, none⟩ = some (.int .i64 0) := bz.2.2.1.at_ 0
  have v1 : W1.cell? ⟨vb, 1, none⟩ = some (.int .i64 0) := bz.2.2.1.at_ 1
  have v2 : W1.cell? ⟨vb, 2, none⟩ = some (.string ⟨#[]⟩) := bz.2.2.1.at_ 2
  have r0 : W1.cell? ⟨rb, 0, none⟩ = some (.int .i64 0) := bz.2.2.2.1.at_ 0
  have r1 : W1.cell? ⟨rb, 1, none⟩ = some (.int .i64 0) := bz.2.2.2.1.at_ 1
  have r2 : W1.cell? ⟨rb, 2, none⟩ = some (.string ⟨#[]⟩) := bz.2.2.2.1.at_ 2
  have r3 : W1.cell? ⟨rb, 3, none⟩ = some (.pointer none) := bz.2.2.2.1.at_ 3
  have f0 := bz.2.2.1.free 0
  have f1 := bz.2.2.1.free 1
  have f2 := bz.2.2.1.free 2
  have g0 := bz.2.2.2.1.free 0
  have g1 := bz.2.2.2.1.free 1
  have g2 := bz.2.2.2.1.free 2
  have g3 := bz.2.2.2.1.free 3
  have hvr : (vb = rb) = False := by simp; have := HW0.out; omega
  have hrv : (rb = vb) = False := by simp; have := HW0.out; omega
  clear hge
  have hge : ¬ (n : Int) ≤ (at_ : Int) := by omega
  have hpl9 : True := trivial
  obtain ⟨q, hq1, hq2⟩ := mask 1 (by decide) xn
  have hq1 : bits .and .i64 xn 1 = (q : Int) := hq1
  have hq0 : (0 : Int) ≤ (q : Int) := by omega
  have hq3 : (q : Int) < 2 := by omega
  clear H bx bz hW0 hpb hvb hrb HP hW1 hxb HP0 hpc hx hxk hxn hxl hpl hmem e1
  go_enter Tryz.func10, Tryz.ntmps10
  go_upto_region 1 with (fail)
  rw [HW0.out.1, HW0.out.2.1, HW0.out.2.2.1, HW0.out.2.2.2]
  go_upto_region 4 with (fail)
  rw [HW1.out.1, HW1.out.2]
  clear c0 c1 c2 x0 hge hpl9
  go_wp2
  clear v0 v1 v2 r0 r1 r2 r3 f0 f1 f2 g0 g1 g2 g3 y0 y1 y2 p0
  have hx := HX.out
  have hlo : w.heap.size ≤ vb ∧ w.heap.size ≤ rb := by have := HW0.out.2; omega
  obtain ⟨q1, q2, q3⟩ := two_st rfl rfl hx.2.2.2.1 hx.2.2.2.2.1 (5, 1 - 2 * (q : Int), ⟨#[]⟩) ((5, 1 - 2 * (q : Int), ⟨#[]⟩), none)
  have y0 := q1.at_ 0
  have y1 := q1.at_ 1
  have y2 := q1.at_ 2
  have z0 := q2.at_ 0
  have z1 := q2.at_ 1
  have z2 := q2.at_ 2
  have z3 := q2.at_ 3
  exact bodyPost_ret (v := .tuple #[valV (5, 1 - 2 * (q : Int), ⟨#[]⟩), RV (5, 1 - 2 * (q : Int), ⟨#[]⟩) none, .int .i64 ((at_ + 1 : Nat) : Int)]) (by simp [results, Tryz.results10, go_sem, y0, y1, y2, z0, z1, z2, z3]) rfl (GPost.leaf hx.1 n at_ (at_ + 1) (by omega) (by omega) (5, 1 - 2 * (q : Int), ⟨#[]⟩) (by rcases (show q = 0 ∨ q = 1 by omega) with rfl | rfl; exact .inr (.inr (.inl ⟨.inr (.inl ⟨rfl, rfl⟩), rfl⟩)); exact .inr (.inr (.inl ⟨.inr (.inr (.inl ⟨rfl, rfl⟩)), rfl⟩))) (by show (5 : Int) ≠ 8; decide) (by show (5 : Int) ≠ 9; decide) _ (Touch.fresh hx.2.1 q3 (fun k hk => by rcases hk with rfl | rfl; exact hlo.1; exact hlo.2)))
end
end Go.Proofs.YtgdkjkfbknbgkaaGreatDoor
