/- ArenaKeeps: the arena behind the steps; its collections. -/
import Derived.Test.YtkkbfadfgdjkdaaEb
import Derived.Test.YtkkbfadfgdjkdaaKh
import Derived.Test.YtkkbfadfgdjkdaaKd
namespace Go.Proofs.Ytkkbfadfgdjkdaa
open Go Go.RowKit

theorem clearC_no : ∀ (l : List Nat) (cells : List (Option Nat)) (k : Nat), k + 1 ∉ l → (∀ r ∈ l, 1 ≤ r) → (clearC cells l)[k]? = cells[k]?
  | [], _, _, _, _ => rfl
  | r :: l, cells, k, h, h1 => by
    have e : clearC cells (r :: l) = clearC (cells.set (r - 1) none) l := rfl
    have hr := h1 r (by simp)
    have hne : k + 1 ≠ r := fun e => h (by simp [e])
    rw [e, clearC_no l _ k (fun h2 => h (by simp [h2])) (fun r hr => h1 r (by simp [hr])), List.getElem?_set_ne (by omega)]
theorem clearC_yes : ∀ (l : List Nat) (cells : List (Option Nat)) (k nb : Nat), k + 1 ∈ l → (clearC cells l)[k]? ≠ some (some nb)
  | [], _, _, _, h => by simp at h
  | r :: l, cells, k, nb, h => fun h2 => by
    have e : clearC cells (r :: l) = clearC (cells.set (r - 1) none) l := rfl
    rw [e] at h2
    rcases List.mem_cons.1 h with h3 | h3
    · have h4 := clearC_sub l _ k nb h2
      rw [← h3, Nat.add_sub_cancel, List.getElem?_set] at h4
      simp at h4
    · exact clearC_yes l _ k nb h3 h2
theorem someC_set : ∀ (cells : List (Option Nat)) (i nb : Nat), cells[i]? = some (some nb) → someC (cells.set i none) + 1 = someC cells
  | [], i, nb, h => by simp at h
  | o :: cells, 0, nb, h => by
    have e : o = some nb := by simpa using h
    subst e
    show someC (none :: cells) + 1 = someC (some nb :: cells)
    unfold someC
    rw [List.filter_cons_of_neg (by simp), List.filter_cons_of_pos (by simp), List.length_cons]
  | o :: cells, i + 1, nb, h => by
    have ih := someC_set cells i nb (by simpa using h)
    show someC (o :: cells.set i none) + 1 = someC (o :: cells)
    unfold someC at ih ⊢
    cases o with
    | none =>
      rw [List.filter_cons_of_neg (by simp), List.filter_cons_of_neg (by simp)]
      exact ih
    | some x =>
      rw [List.filter_cons_of_pos (by simp), List.filter_cons_of_pos (by simp), List.length_cons, List.length_cons]
      omega
theorem someC_clear : ∀ (l : List Nat) (cells : List (Option Nat)), l.Nodup → (∀ r ∈ l, 1 ≤ r ∧ ∃ nb, cells[r - 1]? = some (some nb)) → someC (clearC cells l) + l.length = someC cells
  | [], _, _, _ => rfl
  | r :: l, cells, hn, h => by
    have e : clearC cells (r :: l) = clearC (cells.set (r - 1) none) l := rfl
    obtain ⟨h1, h2⟩ := List.nodup_cons.1 hn
    obtain ⟨hr, nb, hnb⟩ := h r (by simp)
    have ih := someC_clear l (cells.set (r - 1) none) h2 (fun r' hr' => by
      obtain ⟨h3, h4⟩ := h r' (by simp [hr'])
      refine ⟨h3, ?_⟩
      have hne : r' ≠ r := fun e => h1 (e ▸ hr')
      rw [List.getElem?_set_ne (by omega)]
      exact h4)
    have h5 := someC_set cells (r - 1) nb hnb
    rw [e, List.length_cons]
    omega
theorem frL_nodup (d : AD) (M : List Bool) (k : Nat) : (frL d M k).Nodup := by
  unfold frL List.Nodup
  rw [List.pairwise_map]
  exact (List.Pairwise.filter _ List.nodup_range).imp (fun h e => h (by omega))
theorem frL_in {d : AD} {M : List Bool} {k i : Nat} (hi : i < k) (h : deadB d M ((i : Int) + 1) = true) : i + 1 ∈ frL d M k := by
  unfold frL
  exact List.mem_map.2 ⟨i, List.mem_filter.2 ⟨List.mem_range.2 hi, h⟩, rfl⟩
section
variable {d : AD} {M : List Bool}
theorem swept_cells : (d.swept (frL d M d.cells.length)).cells = clearC d.cells (frL d M d.cells.length).reverse := rfl
theorem swept_at (k : Nat) (h : deadB d M ((k : Int) + 1) = false) : (d.swept (frL d M d.cells.length)).cells[k]? = d.cells[k]? := by
  rw [swept_cells, clearC_no _ _ k (fun hm => by
    obtain ⟨i, _, e, hd⟩ := frL_mem (List.mem_reverse.1 hm)
    obtain rfl : i = k := by omega
    rw [h] at hd
    cases hd) (fun r hr => by
    obtain ⟨i, _, e, _⟩ := frL_mem (List.mem_reverse.1 hr)
    omega)]
theorem swept_sub (k nb : Nat) (h : (d.swept (frL d M d.cells.length)).cells[k]? = some (some nb)) : d.cells[k]? = some (some nb) ∧ deadB d M ((k : Int) + 1) = false := by
  rw [swept_cells] at h
  have h1 := clearC_sub _ _ k nb h
  refine ⟨h1, ?_⟩
  cases hd : deadB d M ((k : Int) + 1) with
  | false => rfl
  | true => exact absurd h (clearC_yes _ _ k nb (List.mem_reverse.2 (frL_in (List.getElem?_eq_some_iff.1 h1).1 hd)))
theorem get_iff {r : Int} : (d.get r).isSome = true ↔ 1 ≤ r ∧ ∃ nb, d.cells[(r - 1).toNat]? = some (some nb) := by
  constructor
  · intro hs
    have hr := AD.get_some hs
    unfold AD.get at hs
    rw [if_pos hr] at hs
    refine ⟨hr.1, ?_⟩
    cases hc : d.cells[(r - 1).toNat]? with
    | none => rw [hc] at hs; cases hs
    | some o =>
      cases o with
      | none => rw [hc] at hs; cases hs
      | some nb => exact ⟨nb, rfl⟩
  · rintro ⟨h1, nb, h2⟩
    have := (List.getElem?_eq_some_iff.1 h2).1
    unfold AD.get
    rw [if_pos ⟨h1, by omega⟩, h2]
    rfl
variable {to_ : Nat → List Int} {tab : Nat → List (Int × Int)} {roots : List Int}
theorem live_of (hl : M.length = d.cells.length) (hM : ∀ k : Nat, M[k]? = some true ↔ ReachP d to_ tab roots k) {k : Nat} (h : ReachP d to_ tab roots k) : deadB d M ((k : Int) + 1) = false := by
  cases hd : deadB d M ((k : Int) + 1) with
  | false => rfl
  | true => exact absurd h ((deadB_iff hl hM k).1 hd).2
/-- What was reached is still reached behind a collection. -/
theorem reach_stays (hl : M.length = d.cells.length) (hM : ∀ k : Nat, M[k]? = some true ↔ ReachP d to_ tab roots k) (k : Nat) (h : ReachP d to_ tab roots k) :
    ReachP (d.swept (frL d M d.cells.length)) to_ (tellT d M tab d.cells.length) roots k := by
  have hc : ∀ k, ReachP d to_ tab roots k → (d.swept (frL d M d.cells.length)).cells[k]? = d.cells[k]? := fun k h => swept_at k (live_of hl hM h)
  have hg : ∀ r : Int, (d.get r).isSome = true → ReachP d to_ tab roots (r - 1).toNat → ((d.swept (frL d M d.cells.length)).get r).isSome = true := fun r h1 h2 => by
    obtain ⟨q1, nb, q2⟩ := get_iff.1 h1
    exact get_iff.2 ⟨q1, nb, by rw [hc _ h2]; exact q2⟩
  have hn : ∀ r : Int, (d.get r).isSome = false → ((d.swept (frL d M d.cells.length)).get r).isSome = false := fun r h1 => by
    cases h2 : ((d.swept (frL d M d.cells.length)).get r).isSome with
    | false => rfl
    | true =>
      obtain ⟨q1, nb, q2⟩ := get_iff.1 h2
      rw [get_iff.2 ⟨q1, nb, (swept_sub _ nb q2).1⟩] at h1
      cases h1
  have ht : ∀ k p, ReachP d to_ tab roots k → p ∈ tabOf d tab k → deadB d M p.1 = false → p ∈ tabOf (d.swept (frL d M d.cells.length)) (tellT d M tab d.cells.length) k := fun k p h1 h2 h3 => by
    unfold tabOf at h2 ⊢
    rw [hc k h1]
    cases hk : d.cells[k]? with
    | none => rw [hk] at h2; simp at h2
    | some o =>
      cases o with
      | none => rw [hk] at h2; simp at h2
      | some nb =>
        rw [hk] at h2
        show p ∈ tellT d M tab d.cells.length nb
        have h2 : p ∈ tab nb := h2
        unfold tellT
        split
        · exact List.mem_filter.2 ⟨h2, by rw [h3]; rfl⟩
        · exact h2
  have hto : ∀ k, ReachP d to_ tab roots k → toOf (d.swept (frL d M d.cells.length)) to_ k = toOf d to_ k := fun k h => by
    unfold toOf
    rw [hc k h]
  induction h with
  | root r hr hs => exact .root r hr (hg r hs (.root r hr hs))
  | step k x hk hx hs ih => exact .step k x ih (by rw [hto k hk]; exact hx) (hg x hs (.step k x hk hx hs))
  | free k p hk hp h1 h2 ih => exact .free k p ih (ht k p hk hp (by unfold deadB; rw [h1]; rfl)) (hn _ h1) (hg _ h2 (.free k p hk hp h1 h2))
  | pair k p hk hp h1 hkey h2 ih ih2 =>
    refine .pair k p ih (ht k p hk hp ?_) (hg _ h1 hkey) ih2 (hg _ h2 (.pair k p hk hp h1 hkey h2))
    have := live_of hl hM hkey
    rwa [show (((p.1 - 1).toNat : Nat) : Int) + 1 = p.1 by have := AD.get_some h1; omega] at this
theorem all_stays (hl : M.length = d.cells.length) (hM : ∀ k : Nat, M[k]? = some true ↔ ReachP d to_ tab roots k) (k nb : Nat) (h : (d.swept (frL d M d.cells.length)).cells[k]? = some (some nb)) :
    ReachP (d.swept (frL d M d.cells.length)) to_ (tellT d M tab d.cells.length) roots k := by
  obtain ⟨h1, h2⟩ := swept_sub k nb h
  refine reach_stays hl hM k ?_
  refine Classical.byContradiction fun hr => ?_
  rw [(deadB_iff hl hM k).2 ⟨⟨nb, h1⟩, hr⟩] at h2
  cases h2
/-- A root that is a cell stays. -/
theorem root_stays (hl : M.length = d.cells.length) (hM : ∀ k : Nat, M[k]? = some true ↔ ReachP d to_ tab roots k) (r : Int) (hr : r ∈ roots) (hs : (d.get r).isSome = true) : ((d.swept (frL d M d.cells.length)).get r).isSome = true := by
  obtain ⟨q1, nb, q2⟩ := get_iff.1 hs
  exact get_iff.2 ⟨q1, nb, by rw [swept_at _ (live_of hl hM (.root r hr hs))]; exact q2⟩
theorem no_reachP (k : Nat) : ¬ ReachP d to_ tab [] k := fun h => by
  induction h with
  | root r hr _ => cases hr
  | step _ _ _ _ _ ih => exact ih
  | free _ _ _ _ _ _ ih => exact ih
  | pair _ _ _ _ _ _ _ ih => exact ih
end
/-- What is told of an arena's numbers between collections. -/
structure KD (n : Nat) (d : AD) (en : Nat → Int) (c : Nat) : Prop where
  len : d.cells.length = n
  cnt : d.count = someC d.cells
  fr : d.free.length ≤ c * 1000
  en_ : ∀ b, 0 ≤ en b ∧ en b ≤ ((c * 1000 : Nat) : Int)
theorem swept_some {d : AD} {M : List Bool} : someC (d.swept (frL d M d.cells.length)).cells + (frL d M d.cells.length).length = someC d.cells := by
  have h := someC_clear (frL d M d.cells.length).reverse d.cells (List.pairwise_reverse.2 ((frL_nodup d M _).imp (fun h => h.symm))) (fun r hr => by
    obtain ⟨i, _, rfl, hd⟩ := frL_mem (List.mem_reverse.1 hr)
    obtain ⟨nb, hnb⟩ := dead_node hd
    exact ⟨by omega, nb, by rw [Nat.add_sub_cancel]; exact hnb⟩)
  rw [List.length_reverse] at h
  rw [swept_cells]
  exact h
theorem KD.swept {n : Nat} {d : AD} {en : Nat → Int} {c : Nat} {M : List Bool} (h : KD n d en c) (hn : n ≤ 1000) : KD n (d.swept (frL d M d.cells.length)) (enK en (gnL d M d.cells.length)) (c + 1) := by
  have hf := frL_len d M d.cells.length
  have hs := swept_some (d := d) (M := M)
  have hl := h.len
  refine ⟨by rw [swept_cells, clearC_len]; exact h.len, ?_, ?_, fun b => ?_⟩
  · show d.count - (frL d M d.cells.length).length = someC (d.swept (frL d M d.cells.length)).cells
    rw [h.cnt]
    omega
  · show (d.free ++ (frL d M d.cells.length).reverse).length ≤ _
    rw [List.length_append, List.length_reverse]
    have := h.fr
    omega
  · have h1 := h.en_ b
    have h2 := List.count_le_length (a := b) (l := gnL d M d.cells.length)
    have h3 := gnL_len d M d.cells.length
    unfold enK
    omega
end Go.Proofs.Ytkkbfadfgdjkdaa
namespace Go.Proofs.Ytkkbfadfgdjkdaa
open Go Go.RowKit

def toP (ps : List PI) (nb : Nat) : List Int := match ps.find? (fun p => p.x == nb) with | some p => p.L | none => []
def tabP (ps : List PI) (nb : Nat) : List (Int × Int) := match ps.find? (fun p => p.x == nb) with | some p => p.T | none => []
theorem KS.sysT {A bb mb : Nat} {ps : List PI} {cv fv rv Lv lv : Value} {w : World} (h : KS A bb mb ps cv fv rv Lv lv w) : SysT A A (dN (ps.map PI.x) []) (toP ps) (tabP ps) noEn cv fv rv w := by
  have key : ∀ k nb : Nat, (dN (ps.map PI.x) []).cells[k]? = some (some nb) → ∃ p ∈ ps, p.x = nb ∧ toP ps nb = p.L ∧ tabP ps nb = p.T := fun k nb hk => by
    have h1 := List.mem_of_getElem? (dN_cell.1 hk)
    obtain ⟨q, hq, e⟩ := List.mem_map.1 h1
    cases hf : ps.find? (fun p => p.x == nb) with
    | none =>
      have := List.find?_eq_none.1 hf q hq
      simp [e] at this
    | some p =>
      refine ⟨p, List.mem_of_find?_eq_some hf, by simpa using List.find?_some hf, ?_, ?_⟩
      · unfold toP; rw [hf]
      · unfold tabP; rw [hf]
  refine ⟨h.ar, fun k nb hk => ?_, fun k nb hk => ?_⟩
  · obtain ⟨p, hp, rfl, e1, e2⟩ := key k nb hk
    obtain ⟨hx, hy, hf, hl1, hl2, hl3, hwf⟩ := h.fil p hp
    have hn := h.nax p hp
    obtain ⟨a, ca, e0, i0⟩ := ints_rowv hf.r0
    obtain ⟨ta, ct, e3, i1⟩ := tab_row hf.r1
    have hbx := hf.bx
    rw [e0, e3] at hbx
    rw [e1, e2]
    refine ⟨a, p.L.length, ca, ta, p.T.length, ct, p.vs 2, hbx, i0, i1, by omega, by omega, hwf, hbx.lt, fun b hb => ?_, ?_⟩
    · rcases hb with ⟨o, rfl⟩ | ⟨o, rfl⟩ | hb
      · have q : (p.vs 0).ownBlock = some b := by rw [e0]; rfl
        exact ⟨(own_lt hf.r0 b q).2, hn 0 b q, _, own_lab hf.r0 b q, by decide⟩
      · have q : (p.vs 1).ownBlock = some b := by rw [e3]; rfl
        exact ⟨(own_lt hf.r1 b q).2, hn 1 b q, _, own_lab hf.r1 b q, by decide⟩
      · exact ⟨(own_lt hf.r2 b hb).2, hn 2 b hb, _, own_lab hf.r2 b hb, by decide⟩
    · rcases hf.r2.2 with ⟨q1, _⟩ | ⟨g, cap, cur, q1, _⟩
      · exact .inl q1
      · exact .inr ⟨g, cap, p.G, q1, by omega, own_monoB hf.r2 (Nat.zero_le _)⟩
  · obtain ⟨p, hp, rfl, _⟩ := key k nb hk
    exact (h.fil p hp).1
/-- The arena behind the steps, with the box of both. -/
structure KA (A bb n : Nat) (l : List Int) (d : AD) (to_ : Nat → List Int) (tab : Nat → List (Int × Int)) (en : Nat → Int) (c : Nat) (cv fv rv v1 lv : Value) (w : World) : Prop where
  sys : SysT A A d to_ tab en cv fv rv w
  kd : KD n d en c
  rts : d.roots = l
  bx : Box w bb 46 #[.pointer (some ⟨A, 0, none⟩), v1, lv]
set_option maxRecDepth 100000 in
theorem ks_push {A bb mb : Nat} {ps : List PI} {cv fv Lv lv : Value} {w : World} (h : KS A bb mb ps cv fv (.slice none 0 0) Lv lv w) (A0 : Nat) (v : Value) (l : List Int) (hv : Rd w A0 v l.length 1 (intsV l)) (hl : l.length ≤ 1000) :
    Calls Try.prog 11 #[.pointer (some ⟨A, 0, none⟩), v] w fun e w' => e = .returned (.tuple #[]) ∧ Below A w w' ∧ ∃ cv' fv' rv', KA A bb ps.length l (dN (ps.map PI.x) l) (toP ps) (tabP ps) noEn 0 cv' fv' rv' (.pointer (some ⟨mb, 0, none⟩)) lv w' := by
  refine (push_many A A A0 cv fv (dN (ps.map PI.x) []) v l w h.ar hv hl).mono ?_
  rintro e w' ⟨rfl, hp⟩
  have hs := h.sysT
  obtain ⟨cv', fv', rv', q⟩ := hs.post hp (fun k nb hk => ⟨hs.low k nb hk, hs.nodes k nb hk⟩)
  refine ⟨rfl, q.touch.below h.ge (fun k hk => (AFoot.lt h.ar hk).1), cv', fv', rv', q.sys, ⟨by show ((ps.map PI.x).map some).length = _; rw [List.length_map, List.length_map], ?_, Nat.zero_le _, fun b => ⟨Int.le_refl _, Int.le_refl _⟩⟩, rfl, h.bx.touch q.touch (AFoot.lab h.ar h.bx.lab (by decide) (by decide) (by decide))⟩
  show (ps.map PI.x).length = someC ((ps.map PI.x).map some)
  rw [someC_map]
section
variable {A bb n : Nat} {l : List Int} {d : AD} {to_ : Nat → List Int} {tab : Nat → List (Int × Int)} {en : Nat → Int} {c : Nat} {cv fv rv v1 lv : Value} {w : World}
theorem KA.collect (h : KA A bb n l d to_ tab en c cv fv rv v1 lv w) (hn : n ≤ 1000) (hc : c ≤ 3) (hl : l.length ≤ 1000) :
    Calls Try.prog 12 #[.pointer (some ⟨A, 0, none⟩), .nilFunc] w fun e w' => ∃ frv, e = .returned frv ∧ Below A w w' ∧ ∃ M fv', M.length = d.cells.length ∧ (∀ k : Nat, M[k]? = some true ↔ ReachP d to_ tab l k) ∧ w'.ownsRow w.heap.size 3 1 frv (frL d M d.cells.length).length (numsV (frL d M d.cells.length)) ∧ KA A bb n l (d.swept (frL d M d.cells.length)) to_ (tellT d M tab d.cells.length) (enK en (gnL d M d.cells.length)) (c + 1) cv fv' rv v1 lv w' := by
  have hk := h.kd
  refine (collect_w h.sys (by rw [hk.len]; omega) (by have := hk.fr; omega) (by rw [h.rts]; omega) (fun b => by have := hk.en_ b; omega) hk.cnt).mono ?_
  rintro e w' ⟨M, frv, fv', rfl, q⟩
  have hr := q.reach
  rw [h.rts] at hr
  refine ⟨frv, rfl, q.touch.below h.sys.ge (fun k hk => ?_), M, fv', q.len, hr, q.row, q.sys, hk.swept hn, h.rts, h.bx.touch q.touch (fun hs => ?_)⟩
  · rcases hk with hk | ⟨i, hi⟩
    · exact (AFoot.lt h.sys.ar hk).1
    · exact h.sys.low i k hi
  · rcases hs with hs | ⟨i, hi⟩
    · exact AFoot.lab h.sys.ar h.bx.lab (by decide) (by decide) (by decide) hs
    · obtain ⟨a, na, ca, ta, nt, ct, fa, hx⟩ := h.sys.nodes i bb hi
      exact h.bx.lab.ne hx.box.lab (by decide) rfl
theorem KA.first (h : KA A bb n l d to_ tab en 0 cv fv rv v1 lv w) (hn : n ≤ 1000) (hl : l.length ≤ 1000) (hg : ∀ r : Int, 1 ≤ r → r ≤ (n : Int) → (d.get r).isSome = true) :
    Calls Try.prog 12 #[.pointer (some ⟨A, 0, none⟩), .nilFunc] w fun e w' => (∃ v, e = .returned v) ∧ Below A w w' ∧ ∃ d' tab' en' fv', KA A bb n l d' to_ tab' en' 1 cv fv' rv v1 lv w' ∧ (∀ r ∈ l, 1 ≤ r → r ≤ (n : Int) → (d'.get r).isSome = true) ∧ ∀ k nb : Nat, d'.cells[k]? = some (some nb) → ReachP d' to_ tab' l k := by
  refine (h.collect hn (by omega) hl).mono ?_
  rintro e w' ⟨frv, rfl, hb, M, fv', h1, h2, _, h4⟩
  exact ⟨⟨_, rfl⟩, hb, _, _, _, fv', h4, fun r hr h5 h6 => root_stays h1 h2 r hr (hg r h5 h6), fun k nb hk => all_stays h1 h2 k nb hk⟩
theorem KA.second (h : KA A bb n l d to_ tab en c cv fv rv v1 lv w) (hn : n ≤ 1000) (hc : c ≤ 3) (hl : l.length ≤ 1000) (ha : ∀ k nb : Nat, d.cells[k]? = some (some nb) → ReachP d to_ tab l k) :
    Calls Try.prog 12 #[.pointer (some ⟨A, 0, none⟩), .nilFunc] w fun e w' => ∃ a ca, e = .returned (.slice a 0 ca) ∧ Below A w w' ∧ ∃ tab' en' fv', KA A bb n l d to_ tab' en' (c + 1) cv fv' rv v1 lv w' := by
  refine (h.collect hn hc hl).mono ?_
  rintro e w' ⟨frv, rfl, hb, M, fv', h1, h2, h3, h4⟩
  obtain ⟨q1, q2⟩ := none_dead (d := d) (M := M) (n := d.cells.length) (fun i hi => by
    cases hd : deadB d M ((i : Int) + 1) with
    | false => rfl
    | true =>
      obtain ⟨⟨nb, hnb⟩, h9⟩ := (deadB_iff h1 h2 i).1 hd
      exact absurd (ha i nb hnb) h9)
  rw [q1] at h3 h4
  rw [swept_nil] at h4
  obtain ⟨a, ca, rfl, -⟩ := slice_own h3
  exact ⟨a, ca, rfl, hb, _, _, fv', h4⟩
theorem KA.third (h : KA A bb n [] d to_ tab en c cv fv rv v1 lv w) (hn : n ≤ 1000) (hc : c ≤ 3) :
    Calls Try.prog 12 #[.pointer (some ⟨A, 0, none⟩), .nilFunc] w fun e w' => (∃ v, e = .returned v) ∧ Below A w w' ∧ ∃ d' fv', ArAt w' A A cv fv' rv d' ∧ d'.count = 0 ∧ d'.roots = [] := by
  refine (h.collect hn hc (Nat.zero_le _)).mono ?_
  rintro e w' ⟨frv, rfl, hb, M, fv', h1, h2, _, h4⟩
  refine ⟨⟨_, rfl⟩, hb, _, fv', h4.sys.ar, ?_, h4.rts⟩
  rw [h4.kd.cnt]
  unfold someC
  rw [List.length_eq_zero_iff, List.filter_eq_nil_iff]
  intro o ho
  cases o with
  | none => simp
  | some nb =>
    obtain ⟨k, hk⟩ := List.mem_iff_getElem?.1 ho
    obtain ⟨h5, h6⟩ := swept_sub k nb hk
    rw [(deadB_iff h1 h2 k).2 ⟨⟨nb, h5⟩, no_reachP k⟩] at h6
    cases h6
theorem KA.post {d' : AD} {l' : List Int} (h : KA A bb n l d to_ tab en c cv fv rv v1 lv w) {w' : World} (hp : ArPost A A d' (AFoot A cv fv rv) w w') (hc : d'.cells = d.cells) (hf : d'.free = d.free) (hk : d'.count = d.count) (hr : d'.roots = l') :
    Below A w w' ∧ ∃ cv' fv' rv', KA A bb n l' d' to_ tab en c cv' fv' rv' v1 lv w' := by
  obtain ⟨cv', fv', rv', q⟩ := h.sys.post hp (fun k nb hk => by rw [hc] at hk; exact ⟨h.sys.low k nb hk, h.sys.nodes k nb hk⟩)
  exact ⟨q.touch.below h.sys.ge (fun k hk => (AFoot.lt h.sys.ar hk).1), cv', fv', rv', q.sys, ⟨by rw [hc]; exact h.kd.len, by rw [hc, hk]; exact h.kd.cnt, by rw [hf]; exact h.kd.fr, h.kd.en_⟩, hr, h.bx.touch q.touch (AFoot.lab h.sys.ar h.bx.lab (by decide) (by decide) (by decide))⟩
end
set_option maxHeartbeats 2000000 in
set_option maxRecDepth 100000 in
theorem pop_zero (B A : Nat) (cv fv rv : Value) (d : AD) (hr : d.roots = []) (w : World) (h : ArAt w B A cv fv rv d) :
    Calls Try.prog 18 #[.pointer (some ⟨A, 0, none⟩), .int .i64 0] w fun e w' => e = .returned (.tuple #[]) ∧ ArPost B A d (AFoot A cv fv rv) w w' := by
  have hn : d.roots.length = 0 := by rw [hr]; rfl
  have hD : ∀ q, ArPost B A d (AFoot A cv fv rv) w ((w.drewN q).setCell ⟨A, 3, none⟩ rv) := by
    intro q
    have hb : Below w.heap.size w (w.drewN q) := below_drewN (Below.refl _ _) q
    have h := h.on hb
    exact ⟨_, _, _, h.put3 rv d.roots h.ro h.ap, (Touch.of_below hb).trans ((Touch.put (S := fun k => k = A) rfl _ _).mono (fun k hk => .inl hk)), fun k hk => .inl hk⟩
  have HD := Veil.mk hD
  have d0 : w.cell? ⟨A, 3, none⟩ = some rv := h.box.at_ 3
  have d0f := h.box.free 3
  have hro := h.ro.2
  rw [hn] at hro
  clear hD h hr hn
  rcases hro with ⟨rfl, _⟩ | ⟨g, cap, _, rfl, _, _, _, hm, _⟩
  · go_enter Try.func18, Try.ntmps18
    go_upto_region 1 with (fail)
    go_quiet (fail)
    go_wp2
    exact bodyPost_end (results_none rfl _ _ _) rfl ⟨rfl, HD.out _⟩
  · have q6 : (0 : Int) ≤ (cap : Int) := by omega
    go_enter Try.func18, Try.ntmps18
    go_upto_region 1 with (fail)
    go_quiet (fail)
    go_wp2
    exact bodyPost_end (results_none rfl _ _ _) rfl ⟨rfl, HD.out _⟩
theorem KA.pop {A bb n : Nat} {l : List Int} {d : AD} {to_ : Nat → List Int} {tab : Nat → List (Int × Int)} {en : Nat → Int} {c : Nat} {cv fv rv v1 lv : Value} {w : World} (h : KA A bb n l d to_ tab en c cv fv rv v1 lv w) (hl : l.length ≤ 1000) :
    Calls Try.prog 18 #[.pointer (some ⟨A, 0, none⟩), .int .i64 (l.length : Int)] w fun e w' => e = .returned (.tuple #[]) ∧ Below A w w' ∧ ∃ d' cv' fv' rv', KA A bb n [] d' to_ tab en c cv' fv' rv' v1 lv w' := by
  by_cases he : l = []
  · subst he
    refine (pop_zero A A cv fv rv d h.rts w h.sys.ar).mono ?_
    rintro e w' ⟨rfl, hp⟩
    obtain ⟨q1, q2⟩ := h.post hp rfl rfl rfl h.rts
    exact ⟨rfl, q1, d, q2⟩
  · have hpos : 0 < l.length := List.length_pos_iff.2 he
    have hr := h.rts
    have hp0 := pop_any A A cv fv rv d l.length (by rw [hr]; exact Nat.le_refl _) (by rw [hr]; exact hpos) (by rw [hr]; omega) w h.sys.ar
    refine hp0.mono ?_
    rintro e w' ⟨rfl, hp⟩
    obtain ⟨q1, q2⟩ := h.post (l' := []) hp rfl rfl rfl (by
      show d.roots.take (d.roots.length - l.length) = []
      rw [hr, Nat.sub_self]
      rfl)
    exact ⟨rfl, q1, _, q2⟩
end Go.Proofs.Ytkkbfadfgdjkdaa
