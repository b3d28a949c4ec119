/- ArenaReuses: what Collect leaves, and how cells are used again. -/
import Derived.Test.YtkkbfadfgdjkdaaAu
namespace Go.Proofs.Ytkkbfadfgdjkdaa
open Go Go.RowKit

theorem freeOk_nil {d : AD} (h : d.free = []) : FreeOk d := .inl h
/-- Cells of nodes. -/
abbrev dN (nbs : List Nat) (roots : List Int) : AD := ⟨nbs.map some, [], nbs.length, roots⟩
theorem dN_mk2 (nbs : List Nat) (roots : List Int) (nb : Nat) : (dN nbs roots).mk2 nb = (dN (nbs ++ [nb]) roots, nbs.length + 1) := by
  unfold AD.mk2
  simp
theorem someC_map (nbs : List Nat) : someC (nbs.map some) = nbs.length := by
  unfold someC
  rw [List.filter_eq_self.2 (by simp), List.length_map]
theorem getLast_drop (l : List Nat) (i : Nat) (x : Nat) (h : l[i]? = some x) : (l.drop i).reverse = (l.drop (i + 1)).reverse ++ [x] := by
  obtain ⟨hl, he⟩ := List.getElem?_eq_some_iff.1 h
  rw [List.drop_eq_getElem_cons hl, List.reverse_cons, he]
abbrev noTo : Nat → List Int := fun _ => []
abbrev noEn : Nat → Int := fun _ => 0
abbrev intsOf (l : List Nat) : List Int := l.map fun (r : Nat) => (r : Int)
def BelT (w : World) (e : Ending) (w' : World) : Prop := e = .returned (.bool true) ∧ Below w.heap.size w w'
theorem SysPost.below {B A : Nat} {d d0 : AD} {to_ t0 : Nat → List Int} {en e0 : Nat → Int} {cv fv rv cv' fv' rv' : Value} {w w' : World} (h : SysPost B A d to_ en cv fv rv w cv' fv' rv' w') (hs : Sys B A d0 t0 e0 cv fv rv w) : Below B w w' :=
  h.touch.below (by have := hs.ar.ha; have := hs.ar.box.lt; omega) (fun k hk => (AFoot.lt hs.ar hk).1)
/-- What a pass frees where nothing refers to anything. -/
theorem frL_nos (l : List Bool) (nbs : List Nat) (n : Nat) (hn : nbs.length = n) (M : List Bool) (hl : M.length = (dN nbs (intsOf (nosL l true n))).cells.length)
    (hM : ∀ k : Nat, M[k]? = some true ↔ Reach (dN nbs (intsOf (nosL l true n))) noTo (dN nbs (intsOf (nosL l true n))).roots k) : frL (dN nbs (intsOf (nosL l true n))) M n = nosL l false n := by
  unfold frL
  show _ = ((List.range n).filter fun (i : Nat) => l[i]?.getD false == false).map (· + 1)
  congr 1
  apply List.filter_congr
  intro i hi
  have hi : i < n := List.mem_range.1 hi
  have hr : Reach (dN nbs (intsOf (nosL l true n))) noTo (dN nbs (intsOf (nosL l true n))).roots i ↔ l[i]?.getD false = true := by
    rw [reach_flat]
    constructor
    · rintro ⟨r, hr, -, e⟩
      obtain ⟨r', hr', rfl⟩ := List.mem_map.1 hr
      obtain ⟨i', h1, rfl, h3⟩ := nosL_mem.1 hr'
      have : i = i' := by omega
      rw [this]
      exact h3
    · intro h
      refine ⟨((i + 1 : Nat) : Int), List.mem_map.2 ⟨i + 1, nosL_mem.2 ⟨i, hi, rfl, h⟩, rfl⟩, ?_, by omega⟩
      unfold AD.get
      have hlen : (dN nbs (intsOf (nosL l true n))).cells.length = n := by show (nbs.map some).length = n; rw [List.length_map, hn]
      rw [if_pos ⟨by omega, by rw [hlen]; omega⟩]
      rw [show (((i + 1 : Nat) : Int) - 1).toNat = i by omega]
      show (((nbs.map some)[i]?).getD none).isSome = true
      rw [List.getElem?_map, List.getElem?_eq_getElem (by omega)]
      rfl
  have hd := deadB_iff hl hM i
  have hx : ∃ nb, (dN nbs (intsOf (nosL l true n))).cells[i]? = some (some nb) := ⟨nbs[i]'(by omega), by show (nbs.map some)[i]? = _; rw [List.getElem?_map, List.getElem?_eq_getElem (by omega)]; rfl⟩
  rw [hr] at hd
  cases h : l[i]?.getD false with
  | true =>
    rw [h] at hd
    cases hb : deadB (dN nbs (intsOf (nosL l true n))) M ((i : Int) + 1) with
    | true => exact absurd rfl (hd.1 hb).2
    | false => rfl
  | false =>
    rw [h] at hd
    show deadB (dN nbs (intsOf (nosL l true n))) M ((i : Int) + 1) = (false == false)
    rw [hd.2 ⟨hx, by simp⟩]
    rfl
/-- While cells are used again: i so far; the freed numbers lie in a row of their own. -/
structure Again (A n : Nat) (fr : List Nat) (fa : Option Addr) (fc : Nat) (w1 : World) (i : Nat) (w : World) : Prop where
  ex : ∃ d en cv fv rv, Sys A A d noTo en cv fv rv w ∧ d.free = (fr.drop i).reverse ∧ d.cells.length = n + (i - fr.length) ∧ d.count = n - fr.length + i ∧ ∀ b, (Value.slice fa fr.length fc).ownBlock = some b → ¬ AFoot A cv fv rv b
  row : w.ownsRow A 3 1 (.slice fa fr.length fc) fr.length (numsV fr)
  below : Below A w1 w
/-- What the next Make returns. -/
def wantN (n : Nat) (fr : List Nat) (i : Nat) : Nat := fr[i]?.getD (n + 1 + i - fr.length)
theorem Sys.fresh {B A : Nat} {d : AD} {to_ : Nat → List Int} {en : Nat → Int} {cv fv rv : Value} {w : World} (h : Sys B A d to_ en cv fv rv w) : Sys B A d to_ (fun b => if b = w.heap.size then 0 else en b) cv fv rv w := by
  refine ⟨h.ar, fun k nb hk => ?_, h.low⟩
  obtain ⟨a, na, ca, hx⟩ := h.nodes k nb hk
  have := hx.low
  refine ⟨a, na, ca, ?_⟩
  show NodeAt w nb (to_ nb) (if nb = w.heap.size then 0 else en nb) _ _ a na ca
  rw [if_neg (by omega)]
  exact hx
theorem again_make (A n : Nat) (fr : List Nat) (fa : Option Addr) (fc : Nat) (w1 : World) (i : Nat) (w : World) (h : Again A n fr fa fc w1 i w) (hn : n ≤ 100) (hfr : ∀ r ∈ fr, 1 ≤ r ∧ r ≤ n) (hfl : fr.length ≤ n) (hi : i ≤ 1000) :
    Calls Try.prog 10 #[.pointer (some ⟨A, 0, none⟩), nodeV w.heap.size] (w.alloc (.cells #[.slice none 0 0, .slice none 0 0, .slice none 0 0, .int .i64 0] 30)) fun e w' => e = .returned (.int .i64 (wantN n fr i : Int)) ∧ Again A n fr fa fc w1 (i + 1) w' := by
  obtain ⟨d, en, cv, fv, rv, hs, hfree, hcl, hcnt, hap⟩ := h.ex
  have bx := Box.new w 30 #[.slice none 0 0, .slice none 0 0, .slice none 0 0, .int .i64 0]
  have bb : Below w.heap.size w (w.alloc (.cells #[.slice none 0 0, .slice none 0 0, .slice none 0 0, .int .i64 0] 30)) := (Below.refl _ _).alloc (Nat.le_refl _) _
  obtain ⟨nb, hnb⟩ : ∃ nb, w.heap.size = nb := ⟨_, rfl⟩
  have hA : A ≤ w.heap.size := by have := hs.ar.box.lt; omega
  have hs2 := hs.fresh
  generalize w.alloc (.cells #[.slice none 0 0, .slice none 0 0, .slice none 0 0, .int .i64 0] 30) = w3 at bx bb ⊢
  have s3 := hs2.below bb
  have hfo : FreeOk d := by
    rcases Nat.lt_or_ge i fr.length with hlt | hge
    · have he : fr[i]? = some fr[i] := List.getElem?_eq_getElem hlt
      have := hfr fr[i] (List.getElem_mem hlt)
      exact .inr ⟨(fr.drop (i + 1)).reverse, fr[i] - 1, by rw [hfree, getLast_drop fr i _ he]; congr 2; omega, by omega⟩
    · exact .inl (by rw [hfree, List.drop_eq_nil_of_le hge]; rfl)
  have hmk : (d.mk2 w.heap.size).2 = wantN n fr i ∧ (d.mk2 w.heap.size).1.free = (fr.drop (i + 1)).reverse ∧ (d.mk2 w.heap.size).1.cells.length = n + (i + 1 - fr.length) ∧ (d.mk2 w.heap.size).1.count = n - fr.length + (i + 1) := by
    rcases Nat.lt_or_ge i fr.length with hlt | hge
    · have he : fr[i]? = some fr[i] := List.getElem?_eq_getElem hlt
      have hg : d.free.getLast? = some fr[i] := by rw [hfree, getLast_drop fr i _ he, List.getLast?_append]; rfl
      unfold AD.mk2
      rw [hg]
      refine ⟨by unfold wantN; rw [he]; rfl, ?_, ?_, ?_⟩
      · show d.free.dropLast = _
        rw [hfree, getLast_drop fr i _ he, List.dropLast_concat]
      · show (d.cells.set _ _).length = _
        rw [List.length_set]
        omega
      · show d.count + 1 = _
        omega
    · have hnil : d.free = [] := by rw [hfree, List.drop_eq_nil_of_le hge]; rfl
      have hg : d.free.getLast? = none := by rw [hnil]; rfl
      unfold AD.mk2
      rw [hg]
      refine ⟨?_, ?_, ?_, ?_⟩
      · show d.cells.length + 1 = _
        unfold wantN
        rw [List.getElem?_eq_none hge]
        show _ = n + 1 + i - fr.length
        omega
      · show d.free = _
        rw [hnil, List.drop_eq_nil_of_le (by omega)]
        rfl
      · show (d.cells ++ [_]).length = _
        rw [List.length_append]
        show d.cells.length + 1 = _
        omega
      · show d.count + 1 = _
        omega
  have hfl2 : d.free.length < 1000000 := by rw [hfree, List.length_reverse, List.length_drop]; omega
  have hnode : NodeAt w3 w.heap.size (noTo w.heap.size) ((fun b => if b = w.heap.size then 0 else en b) w.heap.size) w3.heap.size (AFoot A cv fv rv) none 0 0 := by
    show NodeAt w3 w.heap.size [] (if w.heap.size = w.heap.size then 0 else en w.heap.size) _ _ _ _ _
    rw [if_pos rfl]
    exact node_new bx
  refine (sys_make s3 w.heap.size hnode hA hfo (by omega) (by omega) hfl2).mono ?_
  rintro e w4 ⟨rfl, cv4, fv4, rv4, hp⟩
  have hrow3 := own_below h.row bb
  refine ⟨by rw [hmk.1], ⟨_, _, cv4, fv4, rv4, hp.sys, hmk.2.1, hmk.2.2.1, hmk.2.2.2, fun b hb hf => ?_⟩, own_touch hrow3 hp.touch hap, (h.below.trans (bb.mono hA)).trans (hp.below s3)⟩
  rcases hp.own b hf with h9 | h9
  · exact hap b hb h9
  · have := (own_lt hrow3 b hb).2
    omega
theorem Again.count {A n : Nat} {fr : List Nat} {fa : Option Addr} {fc : Nat} {w1 : World} {i : Nat} {w : World} (h : Again A n fr fa fc w1 i w) : Calls Try.prog 13 #[.pointer (some ⟨A, 0, none⟩)] w fun e w' => e = .returned (.int .i64 ((n - fr.length + i : Nat) : Int)) ∧ w' = w := by
  obtain ⟨d, en, cv, fv, rv, hs, hfree, hcl, hcnt, hap⟩ := h.ex
  rw [← hcnt]
  exact count_any A A cv fv rv d w hs.ar
/-- Collect, once the roots are pushed. -/
theorem again_collect (A n : Nat) (l : List Bool) (nbs : List Nat) (hnl : nbs.length = n) (hn : n ≤ 100) (fa : Option Addr) (fc : Nat) (w1 w : World) (cv fv rv : Value) (hs : Sys A A (dN nbs (intsOf (nosL l true n))) noTo noEn cv fv rv w)
    (hb : Below A w1 w) (hrow : w.ownsRow A 3 1 (.slice fa (nosL l false n).length fc) (nosL l false n).length (numsV (nosL l false n))) (hap : ∀ b, (Value.slice fa (nosL l false n).length fc).ownBlock = some b → ¬ AFoot A cv fv rv b) :
    Calls Try.prog 12 #[.pointer (some ⟨A, 0, none⟩), .nilFunc] w fun e w' => ∃ a1 c1, e = .returned (.slice a1 (nosL l false n).length c1) ∧ Ints w' a1 (nosL l false n).length (intsOf (nosL l false n)) ∧ Ints w' fa (nosL l false n).length (intsOf (nosL l false n)) ∧ Again A n (nosL l false n) fa fc w1 0 w' := by
  have h1 := nosL_len l true n
  have h2 := nosL_len l false n
  have hcl : (dN nbs (intsOf (nosL l true n))).cells.length = n := by show (nbs.map some).length = n; rw [List.length_map, hnl]
  refine (sys_collect hs (by omega) (by show (0 : Nat) < 1000000; omega) (by show (intsOf (nosL l true n)).length < 1000000; rw [List.length_map]; omega) (fun b => ⟨by show (0 : Int) ≤ 0; omega, by show (0 : Int) < 1000000; omega⟩) (by show nbs.length = someC (nbs.map some); rw [someC_map])).mono ?_
  rintro e w5 ⟨M, frv, fv5, rfl, hc⟩
  have hfr : frL (dN nbs (intsOf (nosL l true n))) M (dN nbs (intsOf (nosL l true n))).cells.length = nosL l false n := by
    rw [hcl]
    exact frL_nos l nbs n hnl M hc.len hc.reach
  have hr := hc.row
  have hsy := hc.sys
  rw [hfr] at hr hsy
  obtain ⟨a1, c1, rfl, hi1⟩ := ints_of_row hr rfl
  have hrow5 := own_touch hrow hc.touch (fun b hb9 hf9 => by
    rcases hf9 with h9 | ⟨i, hi⟩
    · exact hap b hb9 h9
    · obtain ⟨a, na, ca, hx⟩ := hs.nodes i b hi
      exact hx.box.lab.ne (own_lab hrow b hb9) (by decide) rfl)
  obtain ⟨a2, c2, he2, hi2⟩ := ints_of_row hrow5 rfl
  injection he2 with he2
  subst he2
  refine ⟨a1, c1, rfl, hi1, hi2, ⟨⟨_, _, cv, fv5, rv, hsy, ?_, ?_, ?_, ?_⟩, hrow5, hb.trans hc.below⟩⟩
  · rw [List.drop_zero]
    rfl
  · show (clearC _ _).length = _
    rw [clearC_len, hcl]
    omega
  · show nbs.length - _ = _
    omega
  · intro b hb9 hf9
    rcases hc.own b hf9 with h9 | h9
    · exact hap b hb9 h9
    · have := (own_lt hrow b hb9).2
      omega
theorem Again.read {A n : Nat} {fr : List Nat} {fa : Option Addr} {fc : Nat} {w1 : World} {i : Nat} {w : World} (h : Again A n fr fa fc w1 i w) : Below A w1 w ∧ (0 < fr.length → ∃ b o, fa = some ⟨b, o, none⟩ ∧ b < w.heap.size ∧ ∀ (i x : Nat), fr[i]? = some x → w.cell? ⟨b, o + i, none⟩ = some (.int .i64 (x : Int))) := by
  refine ⟨h.below, fun hp => ?_⟩
  have hr := h.row
  obtain ⟨ao, cap, hx, hcap, hg, -⟩ := slice_own hr
  injection hx with hx1 hx2 hx3
  subst hx1
  obtain ⟨g, rfl⟩ := hg hp
  refine ⟨g, 0, rfl, (own_lt hr g rfl).2, fun i x hix => ?_⟩
  have hil : i < fr.length := (List.getElem?_eq_some_iff.1 hix).1
  rw [Nat.zero_add, hr.cellAt i (by omega), List.getElem?_map, hix]
  rfl
theorem Again.below_any {A n : Nat} {fr : List Nat} {fa : Option Addr} {fc : Nat} {w1 : World} {i : Nat} {w w2 : World} (h : Again A n fr fa fc w1 i w) (hb : Below w.heap.size w w2) : Again A n fr fa fc w1 i w2 := by
  obtain ⟨d, en, cv, fv, rv, hs, h2, h3, h4, hap⟩ := h.ex
  exact ⟨⟨d, en, cv, fv, rv, hs.below hb, h2, h3, h4, hap⟩, own_below h.row hb, h.below.trans (hb.mono (by have := hs.ar.box.lt; omega))⟩
end Go.Proofs.Ytkkbfadfgdjkdaa
