/- Package arena: an arena with its nodes, none of which has pairs or faint ones; what the calls do to it. -/
import Derived.Test.YtkkbfadfgdjkdaaAr
namespace Go.Proofs.Ytkkbfadfgdjkdaa
open Go Go.RowKit

structure Sys (B A : Nat) (d : AD) (to_ : Nat → List Int) (en : Nat → Int) (cv fv rv : Value) (w : World) : Prop where
  ar : ArAt w B A cv fv rv d
  nodes : NodesAt w d to_ en w.heap.size (AFoot A cv fv rv)
  low : ∀ (k nb : Nat), d.cells[k]? = some (some nb) → B ≤ nb
theorem Sys.below {B A : Nat} {d : AD} {to_ : Nat → List Int} {en : Nat → Int} {cv fv rv : Value} {w w' : World} (h : Sys B A d to_ en cv fv rv w) (hb : Below w.heap.size w w') : Sys B A d to_ en cv fv rv w' := ⟨h.ar.on hb, (h.nodes.onN hb).monoN hb.size, h.low⟩
theorem AFoot.lab {w : World} {B A : Nat} {cv fv rv : Value} {d : AD} (h : ArAt w B A cv fv rv d) {k : Nat} {e : TypeId} (hl : Lab w k e) (e1 : e ≠ 64) (e2 : e ≠ 51) (e3 : e ≠ 3) : ¬ AFoot A cv fv rv k := fun hk => by
  rcases hk with hk | hk | hk | hk
  · exact hl.ne h.box.lab e1 hk
  · exact hl.ne (own_lab h.co k hk) e2 rfl
  · exact hl.ne (own_lab h.fo k hk) e3 rfl
  · exact hl.ne (own_lab h.ro k hk) e3 rfl
/-- What a call did to an arena: its nodes lie as they lay. -/
structure SysPost (B A : Nat) (d : AD) (to_ : Nat → List Int) (en : Nat → Int) (cv fv rv : Value) (w : World) (cv' fv' rv' : Value) (w' : World) : Prop where
  sys : Sys B A d to_ en cv' fv' rv' w'
  touch : Touch (AFoot A cv fv rv) w w'
  own : ∀ k, AFoot A cv' fv' rv' k → AFoot A cv fv rv k ∨ w.heap.size ≤ k
theorem NodeAt.turn {w w' : World} {nb : Nat} {L : List Int} {en : Int} {A : Nat} {cv fv rv cv' fv' rv' : Value} {a : Option Addr} {na ca B : Nat} {d : AD} (h : NodeAt w nb L en w.heap.size (AFoot A cv fv rv) a na ca) (har : ArAt w B A cv fv rv d) (ht : Touch (AFoot A cv fv rv) w w') (ho : ∀ k, AFoot A cv' fv' rv' k → AFoot A cv fv rv k ∨ w.heap.size ≤ k) :
    NodeAt w' nb L en w'.heap.size (AFoot A cv' fv' rv') a na ca := by
  have h1 := h.touchN ht (AFoot.lab har h.box.lab (by decide) (by decide) (by decide)) (fun b hb _ => h.rx b hb)
  refine ⟨h1.box, h1.ints, h1.small, Nat.lt_of_lt_of_le h1.low ht.size, fun b hb => Nat.lt_of_lt_of_le (h1.rlow b hb) ht.size, fun b hb hf => ?_⟩
  rcases ho b hf with h2 | h2
  · exact h.rx b hb h2
  · have := h.rlow b hb
    omega
theorem Sys.post {B A : Nat} {d d' : AD} {to_ : Nat → List Int} {en : Nat → Int} {cv fv rv : Value} {w w' : World} (hs : Sys B A d to_ en cv fv rv w) (hp : ArPost B A d' (AFoot A cv fv rv) w w')
    (hc : ∀ (k nb : Nat), d'.cells[k]? = some (some nb) → B ≤ nb ∧ ∃ a na ca, NodeAt w nb (to_ nb) (en nb) w.heap.size (AFoot A cv fv rv) a na ca) : ∃ cv' fv' rv', SysPost B A d' to_ en cv fv rv w cv' fv' rv' w' := by
  obtain ⟨cv', fv', rv', h1, h2, h3⟩ := hp
  refine ⟨cv', fv', rv', ⟨h1, fun k nb hk => ?_, fun k nb hk => (hc k nb hk).1⟩, h2, h3⟩
  obtain ⟨-, a, na, ca, hx⟩ := hc k nb hk
  exact ⟨a, na, ca, hx.turn hs.ar h2 h3⟩
theorem mk2_cells {d : AD} {nb k nb' : Nat} (h : (d.mk2 nb).1.cells[k]? = some (some nb')) : nb' = nb ∨ d.cells[k]? = some (some nb') := by
  unfold AD.mk2 at h
  split at h
  · rcases Nat.lt_or_ge k d.cells.length with hk | hk
    · rw [List.getElem?_append_left hk] at h
      exact .inr h
    · rw [List.getElem?_append_right hk] at h
      have := List.mem_of_getElem? h
      simp at this
      exact .inl this
  · rename_i r _
    by_cases e : r - 1 = k
    · subst e
      rw [List.getElem?_set] at h
      split at h
      · split at h
        · injection h with h
          injection h with h
          exact .inl h.symm
        · cases h
      · exact absurd rfl (by assumption)
    · rw [List.getElem?_set_ne e] at h
      exact .inr h
/-- The numbers to be used next are cells'. -/
def FreeOk (d : AD) : Prop := d.free = [] ∨ ∃ f r, d.free = f ++ [r + 1] ∧ r < d.cells.length
theorem sys_make {B A : Nat} {d : AD} {to_ : Nat → List Int} {en : Nat → Int} {cv fv rv : Value} {w : World} (hs : Sys B A d to_ en cv fv rv w) (nb : Nat) {a : Option Addr} {na ca : Nat} (hx : NodeAt w nb (to_ nb) (en nb) w.heap.size (AFoot A cv fv rv) a na ca) (hB : B ≤ nb) (hf : FreeOk d) (hc : d.count < 4194304) (hl : d.cells.length < 1000000) (hfl : d.free.length < 1000000) :
    Calls Try.prog 10 #[.pointer (some ⟨A, 0, none⟩), nodeV nb] w fun e w' => e = .returned (.int .i64 ((d.mk2 nb).2 : Int)) ∧ ∃ cv' fv' rv', SysPost B A (d.mk2 nb).1 to_ en cv fv rv w cv' fv' rv' w' := by
  have hm : Calls Try.prog 10 #[.pointer (some ⟨A, 0, none⟩), nodeV nb] w (MkPost B A d nb (AFoot A cv fv rv) w) := by
    rcases hf with h | ⟨f, r, h, hr⟩
    · exact make_new B A cv fv rv d nb w hs.ar h hc hl
    · exact make_old B A cv fv rv d nb w hs.ar f r h hr hc hl hfl
  refine hm.mono ?_
  rintro e w' ⟨h1, h2⟩
  refine ⟨h1, hs.post h2 (fun k nb' hk => ?_)⟩
  rcases mk2_cells hk with rfl | h3
  · exact ⟨hB, a, na, ca, hx⟩
  · exact ⟨hs.low k nb' h3, hs.nodes k nb' h3⟩
theorem sys_push {B A : Nat} {d : AD} {to_ : Nat → List Int} {en : Nat → Int} {cv fv rv : Value} {w : World} (hs : Sys B A d to_ en cv fv rv w) (x : Nat) (r : Int) (hx : w.cell? ⟨x, 0, none⟩ = some (.int .i64 r)) (hl : d.roots.length < 1000000) :
    Calls Try.prog 11 #[.pointer (some ⟨A, 0, none⟩), .slice (some ⟨x, 0, none⟩) 1 1] w fun e w' => e = .returned (.tuple #[]) ∧ ∃ cv' fv' rv', SysPost B A (d.pushed r) to_ en cv fv rv w cv' fv' rv' w' :=
  (push_one B A cv fv rv d x r w hs.ar hx hl).mono fun _ _ h => ⟨h.1, hs.post h.2 (fun k nb hk => ⟨hs.low k nb hk, hs.nodes k nb hk⟩)⟩
theorem sys_pop {B A : Nat} {d : AD} {to_ : Nat → List Int} {en : Nat → Int} {cv fv rv : Value} {w : World} (hs : Sys B A d to_ en cv fv rv w) (k : Nat) (hk : k ≤ d.roots.length) (hp : 0 < d.roots.length) (hl : d.roots.length < 1000000) :
    Calls Try.prog 18 #[.pointer (some ⟨A, 0, none⟩), .int .i64 (k : Int)] w fun e w' => e = .returned (.tuple #[]) ∧ ∃ cv' fv' rv', SysPost B A (d.popped k) to_ en cv fv rv w cv' fv' rv' w' :=
  (pop_any B A cv fv rv d k hk hp hl w hs.ar).mono fun _ _ h => ⟨h.1, hs.post h.2 (fun k nb hk => ⟨hs.low k nb hk, hs.nodes k nb hk⟩)⟩
theorem clearC_sub : ∀ (l : List Nat) (cells : List (Option Nat)) (k nb : Nat), (clearC cells l)[k]? = some (some nb) → cells[k]? = some (some nb)
  | [], _, _, _, h => h
  | r :: l, cells, k, nb, h => by
    have h1 := clearC_sub l (cells.set (r - 1) none) k nb h
    by_cases e : r - 1 = k
    · subst e
      rw [List.getElem?_set] at h1
      simp at h1
    · rwa [List.getElem?_set_ne e] at h1
/-- What a collection leaves. -/
structure ColS (B A : Nat) (d : AD) (to_ : Nat → List Int) (en : Nat → Int) (cv fv rv : Value) (w : World) (M : List Bool) (frv fv' : Value) (w' : World) : Prop where
  len : M.length = d.cells.length
  reach : ∀ k : Nat, M[k]? = some true ↔ Reach d to_ d.roots k
  row : w'.ownsRow w.heap.size 3 1 frv (frL d M d.cells.length).length (numsV (frL d M d.cells.length))
  sys : Sys B A (d.swept (frL d M d.cells.length)) to_ (enK en (gnL d M d.cells.length)) cv fv' rv w'
  all : NodesAt w' d to_ (enK en (gnL d M d.cells.length)) w'.heap.size (AFoot A cv fv' rv)
  touch : Touch (fun k => AFoot A cv fv rv k ∨ ∃ i : Nat, d.cells[i]? = some (some k)) w w'
  own : ∀ k, AFoot A cv fv' rv k → AFoot A cv fv rv k ∨ w.heap.size ≤ k
  below : Below B w w'
theorem sys_collect {B A : Nat} {d : AD} {to_ : Nat → List Int} {en : Nat → Int} {cv fv rv : Value} {w : World} (hs : Sys B A d to_ en cv fv rv w) (hL : d.cells.length < 1000000) (hfl : d.free.length < 1000000) (hrl : d.roots.length < 1000000) (hen : ∀ b, 0 ≤ en b ∧ en b < 1000000) (hcnt : d.count = someC d.cells) :
    Calls Try.prog 12 #[.pointer (some ⟨A, 0, none⟩), .nilFunc] w fun e w' => ∃ M frv fv', e = .returned frv ∧ ColS B A d to_ en cv fv rv w M frv fv' w' := by
  refine (collect_plain B A w.heap.size cv fv rv d hL hfl hrl to_ en hen hcnt w (Nat.le_refl _) hs.ar (fun j hj => (AFoot.lt hs.ar hj).2) hs.nodes).mono ?_
  rintro e w' ⟨M, frv, fv', h1, h2, h3, h4, h5, h6, h7, h8⟩
  have ho : ∀ k, AFoot A cv fv' rv k → AFoot A cv fv rv k ∨ w.heap.size ≤ k := fun k hk => by
    rcases hk with hk | hk | hk | hk
    · exact .inl (.inl hk)
    · exact .inl (.inr (.inl hk))
    · exact (h8 k hk).imp (fun h => .inr (.inr (.inl h))) id
    · exact .inl (.inr (.inr (.inr hk)))
  have ht : Touch (fun k => AFoot A cv fv rv k ∨ ∃ i : Nat, d.cells[i]? = some (some k)) w w' := h7.mono (fun k hk => hk.imp (fun hk => by
    rcases hk with hk | hk | hk
    · exact .inl hk
    · exact .inr (.inl hk)
    · exact .inr (.inr (.inl hk))) id)
  have hall : NodesAt w' d to_ (enK en (gnL d M d.cells.length)) w'.heap.size (AFoot A cv fv' rv) := fun k nb hk => by
    obtain ⟨a, na, ca, hx⟩ := h6 k nb hk
    refine ⟨a, na, ca, hx.box, hx.ints, hx.small, Nat.lt_of_lt_of_le hx.low h7.size, fun b hb => Nat.lt_of_lt_of_le (hx.rlow b hb) h7.size, fun b hb hf => ?_⟩
    rcases ho b hf with h9 | h9
    · exact hx.rx b hb h9
    · have := hx.rlow b hb
      omega
  have hsub : ∀ (k nb : Nat), (d.swept (frL d M d.cells.length)).cells[k]? = some (some nb) → d.cells[k]? = some (some nb) := fun k nb hk => clearC_sub _ _ _ _ hk
  refine ⟨M, frv, fv', h3, h1, h2, h4, ⟨h5, fun k nb hk => hall k nb (hsub k nb hk), fun k nb hk => hs.low k nb (hsub k nb hk)⟩, hall, ht, ho, ?_⟩
  refine ht.below (by have := hs.ar.ha; have := hs.ar.box.lt; omega) (fun k hk => ?_)
  rcases hk with hk | ⟨i, hi⟩
  · exact (AFoot.lt hs.ar hk).1
  · exact hs.low i k hi
/-- Where nothing is a root nothing is reached. -/
theorem no_reach {d : AD} {to_ : Nat → List Int} (k : Nat) : ¬ Reach d to_ [] k := fun h => by
  induction h with
  | root r hr _ => cases hr
  | step _ _ _ _ _ ih => exact ih
theorem deadB_iff {d : AD} {M : List Bool} {R : Nat → Prop} (hl : M.length = d.cells.length) (hM : ∀ k : Nat, M[k]? = some true ↔ R k) (k : Nat) : deadB d M ((k : Int) + 1) = true ↔ (∃ nb, d.cells[k]? = some (some nb)) ∧ ¬ R k := by
  constructor
  · intro h
    refine ⟨dead_node h, fun hr => ?_⟩
    have := (dead_parts h hl).2
    rw [show ((k : Int) + 1 - 1).toNat = k by omega, (hM k).2 hr] at this
    cases this
  · rintro ⟨⟨nb, hnb⟩, hr⟩
    have hlt := (List.getElem?_eq_some_iff.1 hnb).1
    unfold deadB
    rw [show ((k : Int) + 1 - 1).toNat = k by omega]
    have h1 : d.get ((k : Int) + 1) = some nb := by
      unfold AD.get
      rw [if_pos (by omega), show ((k : Int) + 1 - 1).toNat = k by omega, hnb]
      rfl
    rw [h1]
    cases hm : M[k]? with
    | none => rfl
    | some b =>
      cases b with
      | false => rfl
      | true => exact absurd ((hM k).1 hm) hr
end Go.Proofs.Ytkkbfadfgdjkdaa
