/- ArenaChains: the state while keys, tables and roots are made. -/
import Derived.Test.YtkkbfadfgdjkdaaEa
namespace Go.Proofs.Ytkkbfadfgdjkdaa
open Go Go.RowKit

abbrev node0 : Obj := .cells #[.slice none 0 0, .slice none 0 0, .slice none 0 0, .int .i64 0] 30
/-- While the keys are made: k of them are in the list. -/
structure K1 (A k : Nat) (nbs : List Nat) (cv fv rv kv : Value) (w : World) : Prop where
  ar : ArAt w A A cv fv rv (dN nbs [])
  nod : ∀ nb ∈ nbs, A ≤ nb ∧ Box w nb 30 #[.slice none 0 0, .slice none 0 0, .slice none 0 0, .int .i64 0]
  kr : w.ownsRow A 3 1 kv k (numsV (upN k))
  kn : ∀ b, kv.ownBlock = some b → ¬ AFoot A cv fv rv b
section
variable {A k : Nat} {nbs : List Nat} {cv fv rv kv : Value} {w w' : World}
theorem K1.ge (h : K1 A k nbs cv fv rv kv w) : A ≤ w.heap.size := by have := h.ar.ha; have := h.ar.box.lt; omega
theorem K1.make (h : K1 A k nbs cv fv rv kv w) (hl : nbs.length < 1000) :
    Calls Try.prog 10 #[.pointer (some ⟨A, 0, none⟩), nodeV w.heap.size] (w.alloc node0) fun e w' => e = .returned (.int .i64 ((nbs.length + 1 : Nat) : Int)) ∧ Below A w w' ∧ ∃ cv' fv' rv', K1 A k (nbs ++ [w.heap.size]) cv' fv' rv' kv w' := by
  have hge := h.ge
  have bb : Below w.heap.size w (w.alloc node0) := (Below.refl _ _).alloc (Nat.le_refl _) _
  have bx := Box.new w 30 #[.slice none 0 0, .slice none 0 0, .slice none 0 0, .int .i64 0]
  have a1 := h.ar.on bb
  have k1 := own_below h.kr bb
  have n1 : ∀ nb ∈ nbs, A ≤ nb ∧ Box (w.alloc node0) nb 30 #[.slice none 0 0, .slice none 0 0, .slice none 0 0, .int .i64 0] := fun nb hm => ⟨(h.nod nb hm).1, (h.nod nb hm).2.below bb⟩
  refine (make_new A A cv fv rv (dN nbs []) w.heap.size (w.alloc node0) a1 rfl (by show nbs.length < 4194304; omega) (by show (nbs.map some).length < 1000000; rw [List.length_map]; omega)).mono ?_
  rintro e w3 ⟨rfl, cv', fv', rv', p1, p2, p3⟩
  rw [dN_mk2] at p1 ⊢
  have hs1 : A ≤ (w.alloc node0).heap.size := by rw [World.size_alloc]; omega
  refine ⟨rfl, (bb.mono hge).trans (p2.below hs1 (fun j hj => (AFoot.lt a1 hj).1)), cv', fv', rv', p1, fun nb hm => ?_, own_touch k1 p2 h.kn, fun b hb hf => ?_⟩
  · rcases List.mem_append.1 hm with hm | hm
    · exact ⟨(n1 nb hm).1, (n1 nb hm).2.touch p2 (AFoot.lab a1 (n1 nb hm).2.lab (by decide) (by decide) (by decide))⟩
    · have e : nb = w.heap.size := by simpa using hm
      rw [e]
      exact ⟨hge, bx.touch p2 (AFoot.lab a1 bx.lab (by decide) (by decide) (by decide))⟩
  · rcases p3 b hf with h5 | h5
    · exact h.kn b hb h5
    · have := (own_lt k1 b hb).2
      omega
theorem K1.app (h : K1 A k nbs cv fv rv kv w) {w3 : World} {g cap : Nat} {v : Int} (hv : v = ((k + 1 : Nat) : Int)) (ho : w3.ownsRow A 3 1 (.slice (some ⟨g, 0, none⟩) (k + 1) cap) (k + 1) (numsV (upN k) ++ [.int .i64 v])) (hg : (w.alloc (.cells #[.int .i64 v] 3)).grownBy w3 kv.ownBlock) (hb : kv.ownBlock = some g ∨ g = (w.alloc (.cells #[.int .i64 v] 3)).heap.size) :
    Below A w w3 ∧ K1 A (k + 1) nbs cv fv rv (.slice (some ⟨g, 0, none⟩) (k + 1) cap) w3 := by
  have hge := h.ge
  have bb : Below w.heap.size w (w.alloc (.cells #[.int .i64 v] 3)) := (Below.refl _ _).alloc (Nat.le_refl _) _
  have ht : Touch (fun b => kv.ownBlock = some b) w w3 := (Touch.of_below bb).trans (Touch.of_grown hg (fun b hb => hb))
  refine ⟨ht.below hge (fun b hb => (own_lt h.kr b hb).1), h.ar.touch ht (fun b hf hb => h.kn b hb hf), fun nb hm => ⟨(h.nod nb hm).1, (h.nod nb hm).2.touch ht (fun hb => (own_lab h.kr nb hb).ne (h.nod nb hm).2.lab (by decide) rfl)⟩, ?_, fun b hb2 hf => ?_⟩
  · rw [upN_succ]
    have e : numsV (upN k ++ [k + 1]) = numsV (upN k) ++ [.int .i64 ((k + 1 : Nat) : Int)] := List.map_append
    rw [e, ← hv]
    exact ho
  · have e : g = b := by injection hb2
    subst e
    rcases hb with h5 | h5
    · exact h.kn g h5 hf
    · have := (AFoot.lt h.ar hf).2
      rw [World.size_alloc] at h5
      omega
end
/-- While the tables are made: j of them, r roots. -/
structure Ch (A n : Nat) (T : List Nat) (tb : Nat) (kv : Value) (j : Nat) (rs : List Int) (nbs : List Nat) (tab : Nat → List (Int × Int)) (cv fv rv : Value) (w : World) : Prop where
  sys : SysT A A (dN nbs rs) noTo tab noEn cv fv rv w
  kr : w.ownsRow A 3 1 kv (n + 1) (numsV (upN (n + 1)))
  kn : ∀ b, kv.ownBlock = some b → ¬ AFoot A cv fv rv b
  tr : Box w tb 3 (numsV T).toArray
  tn : ¬ AFoot A cv fv rv tb
  ct : ChT n j T nbs tab
theorem SysT.congr {B A : Nat} {d : AD} {to_ : Nat → List Int} {tab tab2 : Nat → List (Int × Int)} {en : Nat → Int} {cv fv rv : Value} {w : World} (h : SysT B A d to_ tab en cv fv rv w) (he : ∀ (k nb : Nat), d.cells[k]? = some (some nb) → tab2 nb = tab nb) : SysT B A d to_ tab2 en cv fv rv w :=
  ⟨h.ar, fun k nb hk => by rw [he k nb hk]; exact h.nodes k nb hk, h.low⟩
theorem SysT.ge {B A : Nat} {d : AD} {to_ : Nat → List Int} {tab : Nat → List (Int × Int)} {en : Nat → Int} {cv fv rv : Value} {w : World} (h : SysT B A d to_ tab en cv fv rv w) : B ≤ w.heap.size := by have := h.ar.ha; have := h.ar.box.lt; omega
theorem dN_cell {nbs : List Nat} {rs : List Int} {k nb : Nat} : (dN nbs rs).cells[k]? = some (some nb) ↔ nbs[k]? = some nb := by
  show (nbs.map some)[k]? = some (some nb) ↔ _
  rw [List.getElem?_map]
  cases nbs[k]? <;> simp
section
variable {A n tb j : Nat} {T nbs : List Nat} {kv cv fv rv : Value} {rs : List Int} {tab : Nat → List (Int × Int)} {w w' : World}
theorem Ch.on (h : Ch A n T tb kv j rs nbs tab cv fv rv w) (hb : Below w.heap.size w w') : Ch A n T tb kv j rs nbs tab cv fv rv w' :=
  ⟨h.sys.below hb, own_below h.kr hb, h.kn, h.tr.below hb, h.tn, h.ct⟩
theorem Ch.post {d' : AD} {cv' fv' rv' : Value} {tab' : Nat → List (Int × Int)} (h : Ch A n T tb kv j rs nbs tab cv fv rv w) (hp : SysTPost A A d' noTo tab' noEn cv fv rv w cv' fv' rv' w') :
    w'.ownsRow A 3 1 kv (n + 1) (numsV (upN (n + 1))) ∧ (∀ b, kv.ownBlock = some b → ¬ AFoot A cv' fv' rv' b) ∧ Box w' tb 3 (numsV T).toArray ∧ ¬ AFoot A cv' fv' rv' tb ∧ Below A w w' := by
  refine ⟨own_touch h.kr hp.touch h.kn, fun b hb hf => ?_, h.tr.touch hp.touch h.tn, fun hf => ?_, hp.touch.below h.sys.ge (fun k hk => (AFoot.lt h.sys.ar hk).1)⟩
  · rcases hp.own b hf with h5 | h5
    · exact h.kn b hb h5
    · have := (own_lt h.kr b hb).2
      omega
  · rcases hp.own tb hf with h5 | h5
    · exact h.tn h5
    · have := h.tr.lt
      omega
/-- A table more. -/
theorem Ch.make (h : Ch A n T tb kv j rs nbs tab cv fv rv w) (hn : n < 100) (hj : j < n) (t : Nat) (ht : T[j]? = some t) (htn : t < n) {w2 : World} (hb : Below w.heap.size w w2) {x nb : Nat} (hx0 : w.heap.size ≤ x) (hnb0 : w.heap.size ≤ nb) (bx : Box w2 x 32 #[.int .i64 ((t : Int) + 1), .int .i64 ((t : Int) + 2)]) (bn : Box w2 nb 30 #[.slice none 0 0, .slice (some ⟨x, 0, none⟩) 1 1, .slice none 0 0, .int .i64 0]) :
    Calls Try.prog 10 #[.pointer (some ⟨A, 0, none⟩), nodeV nb] w2 fun e w' => e = .returned (.int .i64 ((n + 2 + j : Nat) : Int)) ∧ Below A w w' ∧ ∃ nbs' tab' cv' fv' rv', Ch A n T tb kv (j + 1) rs nbs' tab' cv' fv' rv' w' := by
  have h2 := h.on hb
  have hfr : ∀ (k nb' : Nat), (dN nbs rs).cells[k]? = some (some nb') → nb' ≠ nb := fun k nb' hk e => by
    obtain ⟨a, na, ca, ta, nt, ct, fa, hx⟩ := h.sys.nodes k nb' hk
    have := hx.low
    omega
  have hs2 : SysT A A (dN nbs rs) noTo (fun b => if b = nb then [((t : Int) + 1, (t : Int) + 2)] else tab b) noEn cv fv rv w2 := h2.sys.congr (fun k nb' hk => if_neg (hfr k nb' hk))
  have hge := h.sys.ge
  have hF : ∀ b, w.heap.size ≤ b → ¬ AFoot A cv fv rv b := fun b hb hf => by have := (AFoot.lt h.sys.ar hf).2; omega
  have hnl := h.ct.len
  have hxn : NodeT w2 nb (noTo nb) ((fun b => if b = nb then [((t : Int) + 1, (t : Int) + 2)] else tab b) nb) (noEn nb) w2.heap.size (AFoot A cv fv rv) none 0 0 (some ⟨x, 0, none⟩) 1 1 (.slice none 0 0) := by
    refine ⟨bn, ⟨rfl, fun h => by omega⟩, ?_, by omega, by omega, fun p hp => ?_, bn.lt, fun b hb2 => ?_, .inl rfl⟩
    · simp only [if_true]
      refine ⟨rfl, fun _ => ⟨x, 0, rfl, bx.lt, fun i y hi => ?_⟩⟩
      have hi0 : i = 0 := by
        have := (List.getElem?_eq_some_iff.1 hi).1
        simp at this
        omega
      subst hi0
      have e : y = ((t : Int) + 1, (t : Int) + 2) := by simpa using hi.symm
      subst e
      exact ⟨bx.at_ 0, bx.at_ 1⟩
    · simp only [if_true] at hp
      have e : p = ((t : Int) + 1, (t : Int) + 2) := by simpa using hp
      rw [e]
      show -9223372036854775808 ≤ (t : Int) + 2 ∧ (t : Int) + 2 ≤ 9223372036854775807
      omega
    · rcases hb2 with ⟨o, hb2⟩ | ⟨o, hb2⟩ | hb2
      · cases hb2
      · cases hb2
        exact ⟨bx.lt, hF x hx0, _, bx.lab, by decide⟩
      · cases hb2
  refine (sysT_make hs2 nb hxn (by omega) (.inl rfl) (by show nbs.length < 4194304; omega) (by show (nbs.map some).length < 1000000; rw [List.length_map]; omega) (by show (0 : Nat) < 1000000; omega)).mono ?_
  rintro e w3 ⟨rfl, cv', fv', rv', hp⟩
  rw [dN_mk2] at hp ⊢
  obtain ⟨p1, p2, p3, p4, p5⟩ := h2.post hp
  refine ⟨by rw [hnl]; exact congrArg _ (congrArg _ (by omega)), (hb.mono hge).trans p5, nbs ++ [nb], _, cv', fv', rv', hp.sys, p1, p2, p3, p4, ?_⟩
  have hold : ∀ i nb', nbs[i]? = some nb' → nb' ≠ nb := fun i nb' hi => hfr i nb' (dN_cell.2 hi)
  refine ⟨by rw [List.length_append, hnl]; simp; omega, fun i nb' hi hnb => ?_, fun i nb' t' hi hnb ht' => ?_⟩
  · rw [List.getElem?_append_left (by omega)] at hnb
    rw [if_neg (hold i nb' hnb)]
    exact h.ct.key i nb' hi hnb
  · rcases Nat.lt_or_ge i j with hlt | hge2
    · rw [List.getElem?_append_left (by omega)] at hnb
      rw [if_neg (hold _ nb' hnb)]
      exact h.ct.tbl i nb' t' hlt hnb ht'
    · obtain rfl : i = j := by omega
      rw [List.getElem?_append_right (by omega), hnl, Nat.sub_self] at hnb
      have e : nb = nb' := by simpa using hnb
      rw [ht] at ht'
      injection ht' with ht'
      rw [if_pos e.symm, ht']
theorem Ch.push (h : Ch A n T tb kv j rs nbs tab cv fv rv w) (hr : rs.length < 1000) (x : Nat) (r : Int) (hx : w.cell? ⟨x, 0, none⟩ = some (.int .i64 r)) :
    Calls Try.prog 11 #[.pointer (some ⟨A, 0, none⟩), .slice (some ⟨x, 0, none⟩) 1 1] w fun e w' => e = .returned (.tuple #[]) ∧ Below A w w' ∧ ∃ cv' fv' rv', Ch A n T tb kv j (rs ++ [r]) nbs tab cv' fv' rv' w' := by
  refine (sysT_push h.sys x r hx (by show rs.length < 1000000; omega)).mono ?_
  rintro e w3 ⟨rfl, cv', fv', rv', hp⟩
  obtain ⟨p1, p2, p3, p4, p5⟩ := h.post hp
  exact ⟨rfl, p5, cv', fv', rv', hp.sys, p1, p2, p3, p4, h.ct⟩
/-- Collect, held or not. -/
theorem Ch.held (h : Ch A n T tb kv n (rootsL n n ++ [1]) nbs tab cv fv rv w) (hn : n < 100) (hT : Turn n T) :
    Calls Try.prog 12 #[.pointer (some ⟨A, 0, none⟩), .nilFunc] w fun e w' => ∃ a c, e = .returned (.slice a 0 c) ∧ Below A w w' ∧ ∃ d cv' fv' rv', d.count = 2 * n + 1 ∧ ArAt w' A A cv' fv' rv' d := by
  have hnl := h.ct.len
  have hcl : (dN nbs (rootsL n n ++ [1])).cells.length = 2 * n + 1 := by show (nbs.map some).length = _; rw [List.length_map]; omega
  refine (collect_w h.sys (by omega) (by show (0 : Nat) < 1000000; omega) (by show (rootsL n n ++ [1]).length < 1000000; rw [List.length_append, rootsL_len]; simp; omega) (fun b => ⟨by show (0 : Int) ≤ 0; omega, by show (0 : Int) < 1000000; omega⟩) (by show nbs.length = someC (nbs.map some); rw [someC_map])).mono ?_
  rintro e w5 ⟨M, frv, fv5, rfl, hc⟩
  obtain ⟨h1, h2⟩ := none_dead (d := dN nbs (rootsL n n ++ [1])) (M := M) (n := 2 * n + 1) (fun i hi => by
    cases h9 : deadB (dN nbs (rootsL n n ++ [1])) M ((i : Int) + 1) with
    | false => rfl
    | true => exact absurd (chain_all hT h.ct i hi) ((deadB_iff hc.len hc.reach i).1 h9).2)
  have hr := hc.row
  have hsy := hc.sys
  rw [hcl, h1] at hr hsy
  rw [swept_nil] at hsy
  obtain ⟨a1, c1, rfl, -⟩ := slice_own hr
  refine ⟨a1, c1, rfl, ?_, _, _, _, _, ?_, hsy.ar⟩
  · exact hc.touch.below h.sys.ge (fun k hk => by
      rcases hk with hk | ⟨i, hi⟩
      · exact (AFoot.lt h.sys.ar hk).1
      · exact h.sys.low i k hi)
  · show nbs.length = _
    omega
theorem Ch.free (h : Ch A n T tb kv n (rootsL n n) nbs tab cv fv rv w) (hn : n < 100) (hT : Turn n T) :
    Calls Try.prog 12 #[.pointer (some ⟨A, 0, none⟩), .nilFunc] w fun e w' => ∃ v, e = .returned v ∧ Below A w w' ∧ w'.ownsRow w.heap.size 3 1 v (n + 1) (numsV (upN (n + 1))) ∧ w'.ownsRow A 3 1 kv (n + 1) (numsV (upN (n + 1))) ∧ ∃ d cv' fv' rv', d.count = n ∧ ArAt w' A A cv' fv' rv' d := by
  have hnl := h.ct.len
  have hcl : (dN nbs (rootsL n n)).cells.length = 2 * n + 1 := by show (nbs.map some).length = _; rw [List.length_map]; omega
  refine (collect_w h.sys (by omega) (by show (0 : Nat) < 1000000; omega) (by show (rootsL n n).length < 1000000; rw [rootsL_len]; omega) (fun b => ⟨by show (0 : Int) ≤ 0; omega, by show (0 : Int) < 1000000; omega⟩) (by show nbs.length = someC (nbs.map some); rw [someC_map])).mono ?_
  rintro e w5 ⟨M, frv, fv5, rfl, hc⟩
  have hcell : ∀ i, i < 2 * n + 1 → ∃ nb, (dN nbs (rootsL n n)).cells[i]? = some (some nb) := fun i hi => ⟨nbs[i]'(by omega), dN_cell.2 (List.getElem?_eq_getElem (by omega))⟩
  have hfr : frL (dN nbs (rootsL n n)) M (2 * n + 1) = upN (n + 1) := by
    rw [show 2 * n + 1 = n + 1 + n by omega, frL_more n (fun i h1 h2 => by
      cases h9 : deadB (dN nbs (rootsL n n)) M ((i : Int) + 1) with
      | false => rfl
      | true => exact absurd ((chain_none hT h.ct i).2 ⟨h1, by omega⟩) ((deadB_iff hc.len hc.reach i).1 h9).2), frL_up (fun i hi => (deadB_iff hc.len hc.reach i).2 ⟨hcell i (by omega), fun hr => by
        have := (chain_none hT h.ct i).1 hr
        omega⟩)]
  have hr := hc.row
  have hsy := hc.sys
  rw [hcl, hfr] at hr hsy
  rw [upN_len] at hr
  refine ⟨frv, rfl, ?_, hr, own_touch h.kr hc.touch (fun b hb hs => ?_), _, _, _, _, ?_, hsy.ar⟩
  · exact hc.touch.below h.sys.ge (fun k hk => by
      rcases hk with hk | ⟨i, hi⟩
      · exact (AFoot.lt h.sys.ar hk).1
      · exact h.sys.low i k hi)
  · rcases hs with hs | ⟨i, hi⟩
    · exact h.kn b hb hs
    · obtain ⟨a, na, ca, ta, nt, ct, fa, hx⟩ := h.sys.nodes i b hi
      exact (own_lab h.kr b hb).ne hx.box.lab (by decide) rfl
  · show nbs.length - (upN (n + 1)).length = n
    rw [upN_len]
    omega
end
/-- When the keys are there. -/
theorem K1.sys {A n : Nat} {nbs : List Nat} {cv fv rv kv : Value} {w : World} (h : K1 A (n + 1) nbs cv fv rv kv w) : SysT A A (dN nbs []) noTo (fun _ => []) noEn cv fv rv w := by
  refine ⟨h.ar, fun k nb hk => ?_, fun k nb hk => (h.nod nb (List.mem_of_getElem? (dN_cell.1 hk))).1⟩
  have hx := h.nod nb (List.mem_of_getElem? (dN_cell.1 hk))
  refine ⟨none, 0, 0, none, 0, 0, .slice none 0 0, hx.2, Ints.nil w, ⟨rfl, fun h => by omega⟩, by omega, by omega, (fun p hp => nomatch hp), hx.2.lt, fun b hb => ?_, .inl rfl⟩
  rcases hb with ⟨o, hb⟩ | ⟨o, hb⟩ | hb
  · cases hb
  · cases hb
  · cases hb
end Go.Proofs.Ytkkbfadfgdjkdaa
