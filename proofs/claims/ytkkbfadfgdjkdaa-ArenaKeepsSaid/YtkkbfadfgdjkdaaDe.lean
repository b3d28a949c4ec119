/- Package arena: what is reachable where there are tables: the marks as mathematics. -/
import Derived.Test.YtkkbfadfgdjkdaaAi
namespace Go.Proofs.Ytkkbfadfgdjkdaa
open Go Go.RowKit

def tabOf (d : AD) (tab : Nat → List (Int × Int)) (k : Nat) : List (Int × Int) := match d.cells[k]? with
  | some (some nb) => tab nb
  | _ => []
/-- Reached from roots, by references and by pairs whose keys are no cells or are reached. -/
inductive ReachP (d : AD) (to_ : Nat → List Int) (tab : Nat → List (Int × Int)) (roots : List Int) : Nat → Prop
  | root (r : Int) : r ∈ roots → (d.get r).isSome = true → ReachP d to_ tab roots (r - 1).toNat
  | step (k : Nat) (x : Int) : ReachP d to_ tab roots k → x ∈ toOf d to_ k → (d.get x).isSome = true → ReachP d to_ tab roots (x - 1).toNat
  | free (k : Nat) (p : Int × Int) : ReachP d to_ tab roots k → p ∈ tabOf d tab k → (d.get p.1).isSome = false → (d.get p.2).isSome = true → ReachP d to_ tab roots (p.2 - 1).toNat
  | pair (k : Nat) (p : Int × Int) : ReachP d to_ tab roots k → p ∈ tabOf d tab k → (d.get p.1).isSome = true → ReachP d to_ tab roots (p.1 - 1).toNat → (d.get p.2).isSome = true → ReachP d to_ tab roots (p.2 - 1).toNat
/-- While a pass goes on: marks and cells to follow, and what waits at which key. -/
structure PInv (d : AD) (to_ : Nat → List Int) (tab : Nat → List (Int × Int)) (roots : List Int) (M : List Bool) (todo : List Nat) (wt : Int → List Int) : Prop where
  snd : ∀ k : Nat, M[k]? = some true → ReachP d to_ tab roots k
  rt : ∀ r ∈ roots, (d.get r).isSome = true → M[(r - 1).toNat]? = some true
  cl : ∀ k : Nat, M[k]? = some true → k ∉ todo → ∀ x ∈ toOf d to_ k, (d.get x).isSome = true → M[(x - 1).toNat]? = some true
  wa : ∀ (key val : Int), val ∈ wt key → (d.get key).isSome = true ∧ ∃ k, ReachP d to_ tab roots k ∧ (key, val) ∈ tabOf d tab k
  pr : ∀ k : Nat, M[k]? = some true → k ∉ todo → ∀ p ∈ tabOf d tab k, (d.get p.2).isSome = true → M[(p.2 - 1).toNat]? = some true ∨ (p.2 ∈ wt p.1 ∧ (d.get p.1).isSome = true ∧ (M[(p.1 - 1).toNat]? = some true → (p.1 - 1).toNat ∈ todo))
/-- When nothing is left to follow the marks are what is reached. -/
theorem pinv_done {d : AD} {to_ : Nat → List Int} {tab : Nat → List (Int × Int)} {roots : List Int} {M : List Bool} {wt : Int → List Int} (h : PInv d to_ tab roots M [] wt) (k : Nat) : M[k]? = some true ↔ ReachP d to_ tab roots k := by
  refine ⟨h.snd k, fun hr => ?_⟩
  induction hr with
  | root r hr hs => exact h.rt r hr hs
  | step j x _ hx hs ih => exact h.cl j ih (by simp) x hx hs
  | free j p _ hp hk hs ih =>
    rcases h.pr j ih (by simp) p hp hs with h1 | ⟨_, h2, _⟩
    · exact h1
    · rw [hk] at h2
      cases h2
  | pair j p _ hp _ _ hs ih1 ih2 =>
    rcases h.pr j ih1 (by simp) p hp hs with h1 | ⟨_, _, h3⟩
    · exact h1
    · exact absurd (h3 ih2) (by simp)
/-- What waits at a key whose cell is reached is reached. -/
theorem pinv_wait {d : AD} {to_ : Nat → List Int} {tab : Nat → List (Int × Int)} {roots : List Int} {M : List Bool} {todo : List Nat} {wt : Int → List Int} (h : PInv d to_ tab roots M todo wt) {key val : Int} (hv : val ∈ wt key) (hk : M[(key - 1).toNat]? = some true) (hs : (d.get val).isSome = true) : ReachP d to_ tab roots (val - 1).toNat := by
  obtain ⟨h1, k, h2, h3⟩ := h.wa key val hv
  exact .pair k (key, val) h2 h3 h1 (h.snd _ hk) hs
theorem pinv_start {d : AD} (to_ : Nat → List Int) (tab : Nat → List (Int × Int)) (roots : List Int) {st : List Bool × List Nat} (hg : Gone_ d roots (List.replicate d.cells.length false, []) st) : PInv d to_ tab roots st.1 st.2 (fun _ => []) := by
  have h0 : ∀ k : Nat, ¬ (List.replicate d.cells.length false)[k]? = some true := fun k h => by
    rw [List.getElem?_replicate] at h
    split at h
    · cases h
    · cases h
  refine ⟨fun k hk => ?_, fun r hr hs => hg.hit r hr hs, fun k hk hn => ?_, (fun key val hv => nomatch hv), fun k hk hn => ?_⟩
  · rcases hg.new k hk with h | ⟨r, hr, hs, rfl, _⟩
    · exact absurd h (h0 k)
    · exact .root r hr hs
  · rcases hg.new k hk with h | ⟨r, hr, hs, _, h2⟩
    · exact absurd h (h0 k)
    · exact absurd h2 hn
  · rcases hg.new k hk with h | ⟨r, hr, hs, _, h2⟩
    · exact absurd h (h0 k)
    · exact absurd h2 hn
/-- What following one cell does: l its references and what waited at it, T its pairs. -/
structure FolP (d : AD) (l : List Int) (T : List (Int × Int)) (M : List Bool) (t : List Nat) (wt : Int → List Int) (M' : List Bool) (t' : List Nat) (wt' : Int → List Int) : Prop where
  mono : ∀ k : Nat, M[k]? = some true → M'[k]? = some true
  hit : ∀ r ∈ l, (d.get r).isSome = true → M'[(r - 1).toNat]? = some true
  sound : ∀ R : Nat → Prop, (∀ j : Nat, M[j]? = some true → R j) → (∀ r ∈ l, (d.get r).isSome = true → R (r - 1).toNat) → (∀ p ∈ T, (d.get p.2).isSome = true → ((d.get p.1).isSome = false ∨ ((d.get p.1).isSome = true ∧ R (p.1 - 1).toNat)) → R (p.2 - 1).toNat) → ∀ j : Nat, M'[j]? = some true → R j
  fresh : ∀ k : Nat, M'[k]? = some true → M[k]? = some true ∨ k ∈ t'
  todo : ∀ k ∈ t, k ∈ t'
  wmono : ∀ key val, val ∈ wt key → val ∈ wt' key
  wnew : ∀ key val, val ∈ wt' key → val ∈ wt key ∨ ((key, val) ∈ T ∧ (d.get key).isSome = true)
  pr : ∀ p ∈ T, (d.get p.2).isSome = true → M'[(p.2 - 1).toNat]? = some true ∨ (p.2 ∈ wt' p.1 ∧ (d.get p.1).isSome = true ∧ (M'[(p.1 - 1).toNat]? = some true → (p.1 - 1).toNat ∈ t'))
theorem pinv_follow {d : AD} {to_ : Nat → List Int} {tab : Nat → List (Int × Int)} {roots : List Int} {M : List Bool} {t : List Nat} {k : Nat} {wt : Int → List Int} {M' : List Bool} {t' : List Nat} {wt' : Int → List Int} (h : PInv d to_ tab roots M (t ++ [k]) wt) (hk : M[k]? = some true)
    (hf : FolP d (toOf d to_ k ++ wt ((k : Int) + 1)) (tabOf d tab k) M t wt M' t' wt') : PInv d to_ tab roots M' t' wt' := by
  have hin : ∀ j : Nat, j ≠ k → j ∉ t' → j ∉ t ++ [k] := fun j hj hn hm => by
    rcases List.mem_append.1 hm with hm | hm
    · exact hn (hf.todo j hm)
    · exact hj (by simpa using hm)
  refine ⟨hf.sound _ h.snd (fun r hr hs => ?_) (fun p hp hs hkey => ?_), fun r hr hs => hf.mono _ (h.rt r hr hs), fun j hj hn x hx hs => ?_, fun key val hv => ?_, fun j hj hn p hp hs => ?_⟩
  · rcases List.mem_append.1 hr with hr | hr
    · exact .step k r (h.snd k hk) hr hs
    · have e : ((k : Int) + 1 - 1).toNat = k := by omega
      exact pinv_wait h hr (by rw [e]; exact hk) hs
  · rcases hkey with h1 | ⟨h1, h2⟩
    · exact .free k p (h.snd k hk) hp h1 hs
    · exact .pair k p (h.snd k hk) hp h1 h2 hs
  · by_cases e : j = k
    · subst e
      exact hf.hit x (List.mem_append_left _ hx) hs
    · rcases hf.fresh j hj with h1 | h1
      · exact hf.mono _ (h.cl j h1 (hin j e hn) x hx hs)
      · exact absurd h1 hn
  · rcases hf.wnew key val hv with h1 | ⟨h1, h2⟩
    · exact h.wa key val h1
    · exact ⟨h2, k, h.snd k hk, h1⟩
  · by_cases e : j = k
    · subst e
      exact hf.pr p hp hs
    · rcases hf.fresh j hj with h1 | h1
      · rcases h.pr j h1 (hin j e hn) p hp hs with h2 | ⟨h2, h3, h4⟩
        · exact .inl (hf.mono _ h2)
        · by_cases ek : (p.1 - 1).toNat = k
          · have hg := AD.get_some h3
            refine .inl (hf.hit p.2 (List.mem_append_right _ ?_) hs)
            rw [show ((k : Int) + 1) = p.1 by omega]
            exact h2
          · refine .inr ⟨hf.wmono _ _ h2, h3, fun h5 => ?_⟩
            rcases hf.fresh _ h5 with h6 | h6
            · rcases List.mem_append.1 (h4 h6) with h7 | h7
              · exact hf.todo _ h7
              · exact absurd (by simpa using h7) ek
            · exact h6
      · exact absurd h1 hn
/-- marker.pair as mathematics: marks and todo, and what waits. -/
def pairP (d : AD) (s : (List Bool × List Nat) × (Int → List Int)) (p : Int × Int) : (List Bool × List Nat) × (Int → List Int) :=
  if deadB d s.1.1 p.1 = true then (s.1, fun key => if key = p.1 then s.2 key ++ [p.2] else s.2 key) else (markP d s.1 p.2, s.2)
theorem folP_nil {d : AD} {l : List Int} {M : List Bool} {t : List Nat} {wt : Int → List Int} {st : List Bool × List Nat} (hg : Gone_ d l (M, t) st) : FolP d l [] M t wt st.1 st.2 wt := by
  refine ⟨hg.mono, hg.hit, fun R h1 h2 _ j hj => ?_, fun k hk => ?_, hg.todo, fun _ _ h => h, fun _ _ h => .inl h, (fun p hp => nomatch hp)⟩
  · rcases hg.new j hj with h | ⟨r, hr, hs, rfl, _⟩
    · exact h1 j h
    · exact h2 r hr hs
  · rcases hg.new k hk with h | ⟨_, _, _, _, h⟩
    · exact .inl h
    · exact .inr h
theorem folP_snoc {d : AD} {l : List Int} {T : List (Int × Int)} {M : List Bool} {t : List Nat} {wt : Int → List Int} {s : (List Bool × List Nat) × (Int → List Int)} (h : FolP d l T M t wt s.1.1 s.1.2 s.2) (hg : MGood d s.1) (p : Int × Int) :
    FolP d l (T ++ [p]) M t wt (pairP d s p).1.1 (pairP d s p).1.2 (pairP d s p).2 := by
  obtain ⟨st, w⟩ := s
  have hT : ∀ q ∈ T, q ∈ T ++ [p] := fun q hq => List.mem_append_left _ hq
  unfold pairP
  split
  · rename_i hd
    have hd : deadB d st.1 p.1 = true := hd
    have hp := dead_parts hd hg.len
    refine ⟨h.mono, h.hit, fun R h1 h2 h3 => h.sound R h1 h2 (fun q hq => h3 q (hT q hq)), h.fresh, h.todo, fun key val hv => ?_, fun key val hv => ?_, fun q hq hs => ?_⟩
    · show val ∈ (if key = p.1 then w key ++ [p.2] else w key)
      split
      · exact List.mem_append_left _ (h.wmono key val hv)
      · exact h.wmono key val hv
    · have hv : val ∈ (if key = p.1 then w key ++ [p.2] else w key) := hv
      split at hv
      · rename_i e
        rcases List.mem_append.1 hv with hv | hv
        · exact (h.wnew key val hv).imp id (fun h => ⟨hT _ h.1, h.2⟩)
        · have e2 : val = p.2 := by simpa using hv
          refine .inr ⟨List.mem_append_right _ ?_, by rw [e]; exact hp.1⟩
          rw [e, e2]
          simp
      · exact (h.wnew key val hv).imp id (fun h => ⟨hT _ h.1, h.2⟩)
    · show st.1[(q.2 - 1).toNat]? = some true ∨ (q.2 ∈ (if q.1 = p.1 then w q.1 ++ [p.2] else w q.1) ∧ _)
      rcases List.mem_append.1 hq with hq | hq
      · refine (h.pr q hq hs).imp id (fun h4 => ⟨?_, h4.2⟩)
        split
        · exact List.mem_append_left _ h4.1
        · exact h4.1
      · have e : q = p := by simpa using hq
        subst e
        rw [if_pos rfl]
        refine .inr ⟨by simp, hp.1, fun h5 => ?_⟩
        rw [hp.2] at h5
        cases h5
  · rename_i hd
    have hkey : (d.get p.1).isSome = true → st.1[(p.1 - 1).toNat]? = some true := fun hs => by
      have hd : ¬ deadB d st.1 p.1 = true := hd
      unfold deadB at hd
      rw [hs, Bool.true_and] at hd
      have hr := AD.get_some hs
      have hlen : st.1.length = d.cells.length := hg.len
      have hlt : (p.1 - 1).toNat < st.1.length := by omega
      rw [List.getElem?_eq_getElem hlt] at hd ⊢
      simpa using hd
    refine ⟨fun k hk => mark_mono p.2 k (h.mono k hk), fun r hr hs => mark_mono p.2 _ (h.hit r hr hs), fun R h1 h2 h3 j hj => ?_, fun k hk => ?_, fun k hk => mark_todo p.2 k (h.todo k hk), h.wmono, fun key val hv => (h.wnew key val hv).imp id (fun h => ⟨hT _ h.1, h.2⟩), fun q hq hs => ?_⟩
    · have hR := h.sound R h1 h2 (fun q hq => h3 q (hT q hq))
      rcases mark_new p.2 j hg hj with h4 | ⟨h4, rfl, _⟩
      · exact hR j h4
      · refine h3 p (by simp) h4 ?_
        cases hs : (d.get p.1).isSome with
        | false => exact .inl rfl
        | true => exact .inr ⟨rfl, hR _ (hkey hs)⟩
    · rcases mark_new p.2 k hg hk with h4 | ⟨_, _, h4⟩
      · exact (h.fresh k h4).imp id (mark_todo p.2 k)
      · exact .inr h4
    · rcases List.mem_append.1 hq with hq | hq
      · refine (h.pr q hq hs).imp (mark_mono p.2 _) (fun h4 => ⟨h4.1, h4.2.1, fun h5 => ?_⟩)
        rcases mark_new p.2 _ hg h5 with h6 | ⟨_, _, h6⟩
        · exact mark_todo p.2 _ (h4.2.2 h6)
        · exact h6
      · have e : q = p := by simpa using hq
        subst e
        exact .inl (mark_hit hg q.2 hs)
theorem pairP_good {d : AD} {s : (List Bool × List Nat) × (Int → List Int)} (h : MGood d s.1) (p : Int × Int) : MGood d (pairP d s p).1 := by
  unfold pairP
  split
  · exact h
  · exact h.mark p.2
theorem folP_more {d : AD} {l : List Int} {M : List Bool} {t : List Nat} {wt : Int → List Int} : ∀ (T2 T1 : List (Int × Int)) (s : (List Bool × List Nat) × (Int → List Int)), FolP d l T1 M t wt s.1.1 s.1.2 s.2 → MGood d s.1 →
    MGood d (T2.foldl (pairP d) s).1 ∧ FolP d l (T1 ++ T2) M t wt (T2.foldl (pairP d) s).1.1 (T2.foldl (pairP d) s).1.2 (T2.foldl (pairP d) s).2
  | [], T1, s, h, hg => ⟨hg, by rw [List.append_nil]; exact h⟩
  | p :: T2, T1, s, h, hg => by
    have h2 := folP_more T2 (T1 ++ [p]) (pairP d s p) (folP_snoc h hg p) (pairP_good hg p)
    rw [List.append_assoc] at h2
    exact h2
/-- Following one cell: references and what waited, then its pairs. -/
theorem folP_fold {d : AD} {l : List Int} {M : List Bool} {t : List Nat} (wt : Int → List Int) (hg : MGood d (M, t)) (T : List (Int × Int)) :
    MGood d (T.foldl (pairP d) (l.foldl (markP d) (M, t), wt)).1 ∧ FolP d l T M t wt (T.foldl (pairP d) (l.foldl (markP d) (M, t), wt)).1.1 (T.foldl (pairP d) (l.foldl (markP d) (M, t), wt)).1.2 (T.foldl (pairP d) (l.foldl (markP d) (M, t), wt)).2 := by
  have h1 := gone_fold l (M, t) hg
  have h2 := folP_more T [] (l.foldl (markP d) (M, t), wt) (folP_nil h1) h1.good
  rwa [List.nil_append] at h2
theorem pairP_mu {d : AD} {s : (List Bool × List Nat) × (Int → List Int)} (h : MGood d s.1) (p : Int × Int) : mu (pairP d s p).1 ≤ mu s.1 := by
  unfold pairP
  split
  · exact Nat.le_refl _
  · exact mark_mu h p.2
theorem pairs_mu {d : AD} : ∀ (T : List (Int × Int)) (s : (List Bool × List Nat) × (Int → List Int)), MGood d s.1 → mu (T.foldl (pairP d) s).1 ≤ mu s.1
  | [], _, _ => Nat.le_refl _
  | p :: T, s, h => Nat.le_trans (pairs_mu T (pairP d s p) (pairP_good h p)) (pairP_mu h p)
/-- Following one cell leaves the measure no greater. -/
theorem fol_mu {d : AD} {l : List Int} {M : List Bool} {t : List Nat} (wt : Int → List Int) (hg : MGood d (M, t)) (T : List (Int × Int)) : mu (T.foldl (pairP d) (l.foldl (markP d) (M, t), wt)).1 ≤ mu (M, t) := by
  have h1 := gone_fold l (M, t) hg
  exact Nat.le_trans (pairs_mu T (l.foldl (markP d) (M, t), wt) h1.good) h1.mu
end Go.Proofs.Ytkkbfadfgdjkdaa
