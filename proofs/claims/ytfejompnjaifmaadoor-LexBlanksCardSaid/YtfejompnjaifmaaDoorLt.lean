/- LexBlanks, as mathematics: the tokens' texts with blanks or a comment between are the same tokens. -/
import Derived.Test.YtfejompnjaifmaaDoorLl
namespace Go.Proofs.YtfejompnjaifmaaDoor
open Go

def sepL (k : Nat) : By := if k = 0 then [32] else if k = 1 then [10] else if k = 2 then [47, 42, 32, 99, 32, 42, 47] else [47, 47, 32, 99, 10]
theorem sepL_len (k : Nat) : 1 ≤ (sepL k).length ∧ (sepL k).length ≤ 7 := by
  unfold sepL
  split
  · decide
  · split
    · decide
    · split <;> decide
theorem skip_none (c : UInt8) (r : By) (hb : blankB c = false) (h : c ≠ 47) : ∀ f, skipL f (c :: r) = (0, true)
  | 0 => rfl
  | f + 1 => by
    have h0 : ((47 : UInt8) == c) = false := beq_eq_false_iff_ne.2 (Ne.symm h)
    have h1 : Lib.hasPrefix (c :: r) [47, 47] = false := by
      show ((47 : UInt8) == c && _) = false
      rw [h0]; rfl
    have h2 : Lib.hasPrefix (c :: r) [47, 42] = false := by
      show ((47 : UInt8) == c && _) = false
      rw [h0]; rfl
    unfold skipL
    rw [if_neg (by rw [hb]; exact Bool.noConfusion), if_neg (by rw [h1]; exact Bool.noConfusion), if_neg (by rw [h2]; exact Bool.noConfusion)]
theorem skip_b (c : UInt8) (r : By) (f : Nat) (h : blankB c = true) : skipL (f + 1) (c :: r) = (1 + (skipL f r).1, (skipL f r).2) := by
  conv => lhs; unfold skipL
  rw [if_pos h]
theorem skip_line (r : By) (n f : Nat) (h : Lib.indexByte (47 :: 47 :: r) 10 = n) : skipL (f + 1) (47 :: 47 :: r) = (n + 1 + (skipL f ((47 :: 47 :: r).drop (n + 1))).1, (skipL f ((47 :: 47 :: r).drop (n + 1))).2) := by
  conv => lhs; unfold skipL
  rw [if_neg (by decide), if_pos (by rfl), h, if_neg (by omega)]
  rfl
theorem skip_cmt (r : By) (n f : Nat) (h : Lib.index r [42, 47] = n) : skipL (f + 1) (47 :: 42 :: r) = (n + 4 + (skipL f ((47 :: 42 :: r).drop (n + 4))).1, (skipL f ((47 :: 42 :: r).drop (n + 4))).2) := by
  conv => lhs; unfold skipL
  have hd : (47 :: 42 :: r : By).drop 2 = r := rfl
  have h1 : Lib.hasPrefix (47 :: 42 :: r) [47, 47] = false := rfl
  rw [if_neg (by decide), if_neg (by rw [h1]; exact Bool.noConfusion), if_pos (by rfl), hd, h, if_neg (by omega)]
  rfl
theorem skip_sep (k : Nat) (X : By) (f : Nat) (hf : X.length + 9 ≤ f) : skipL f (32 :: (sepL k ++ X)) = (1 + (sepL k).length + (skipL X.length X).1, (skipL X.length X).2) := by
  obtain ⟨g, rfl⟩ : ∃ g, f = g + 2 := ⟨f - 2, by omega⟩
  have hX : skipL g X = skipL X.length X := skip_fuel _ _ _ (by omega) (Nat.le_refl _)
  rw [skip_b 32 _ (g + 1) (by decide)]
  unfold sepL
  split
  · show (1 + (skipL (g + 1) (32 :: X)).1, (skipL (g + 1) (32 :: X)).2) = _
    rw [skip_b 32 X g (by decide), hX]
    simp only [List.length_cons, List.length_nil]
    congr 1
    omega
  · split
    · show (1 + (skipL (g + 1) (10 :: X)).1, (skipL (g + 1) (10 :: X)).2) = _
      rw [skip_b 10 X g (by decide), hX]
      simp only [List.length_cons, List.length_nil]
      congr 1
      omega
    · split
      · show (1 + (skipL (g + 1) (47 :: 42 :: 32 :: 99 :: 32 :: 42 :: 47 :: X)).1, (skipL (g + 1) (47 :: 42 :: 32 :: 99 :: 32 :: 42 :: 47 :: X)).2) = _
        rw [skip_cmt (32 :: 99 :: 32 :: 42 :: 47 :: X) 3 g (by rfl)]
        show (1 + (3 + 4 + (skipL g X).1), (skipL g X).2) = _
        rw [hX]
        simp only [List.length_cons, List.length_nil]
        congr 1
        omega
      · show (1 + (skipL (g + 1) (47 :: 47 :: 32 :: 99 :: 10 :: X)).1, (skipL (g + 1) (47 :: 47 :: 32 :: 99 :: 10 :: X)).2) = _
        rw [skip_line (32 :: 99 :: 10 :: X) 4 g (by rfl)]
        show (1 + (4 + 1 + (skipL g X).1), (skipL g X).2) = _
        rw [hX]
        simp only [List.length_cons, List.length_nil]
        congr 1
        omega
/-- A token that is read as itself wherever a blank follows its text. -/
structure GoodT (t : Tk) : Prop where
  len : t.len = t.text.length
  ne : t.text ≠ []
  skip : ∀ f rest, skipL f (t.text ++ 32 :: rest) = (0, true)
  next : ∀ rest, nextL ofL (t.text ++ 32 :: rest) = some t
theorem tw_app {p : UInt8 → Bool} (h32 : p 32 = false) : ∀ (x : By), (∀ c ∈ x, p c = true) → ∀ rest, (x ++ 32 :: rest).takeWhile p = x
  | [], _, rest => by
    show (32 :: rest).takeWhile p = []
    rw [List.takeWhile_cons, if_neg (by rw [h32]; exact Bool.noConfusion)]
  | c :: x, h, rest => by
    show (c :: (x ++ 32 :: rest)).takeWhile p = c :: x
    rw [List.takeWhile_cons, if_pos (h c (by simp)), tw_app h32 x (fun c hc => h c (by simp [hc])) rest]
theorem tw_all (p : UInt8 → Bool) : ∀ (l : By), ∀ c ∈ l.takeWhile p, p c = true
  | [], c, h => by cases h
  | b :: l, c, h => by
    rw [List.takeWhile_cons] at h
    split at h
    · rcases List.mem_cons.1 h with rfl | h
      · assumption
      · exact tw_all p l c h
    · cases h
theorem tw_cons {p : UInt8 → Bool} {c : UInt8} (r : By) (h : p c = true) : ∃ r', (c :: r).takeWhile p = c :: r' := ⟨r.takeWhile p, by rw [List.takeWhile_cons, if_pos h]⟩
theorem letB_not {c : UInt8} (h : letB c = true) : blankB c = false ∧ c ≠ 47 := by
  unfold letB at h
  have h := of_decide_eq_true h
  refine ⟨?_, ?_⟩
  · unfold blankB
    exact decide_eq_false (by omega)
  · rintro rfl
    have : (47 : UInt8).toNat = 47 := rfl
    omega
theorem digB_not {c : UInt8} (h : digB c = true) : blankB c = false ∧ c ≠ 47 ∧ letB c = false := by
  unfold digB at h
  have h := of_decide_eq_true h
  refine ⟨?_, ?_, ?_⟩
  · unfold blankB
    exact decide_eq_false (by omega)
  · rintro rfl
    have : (47 : UInt8).toNat = 47 := rfl
    omega
  · unfold letB
    exact decide_eq_false (by omega)
theorem good_name (c : UInt8) (r : By) (t : Tk) (hl : letB c = true) (h : nameL (c :: r) = some t) : GoodT t := by
  obtain ⟨r', hr'⟩ := tw_cons (p := fun c => letB c || digB c) r (by rw [hl]; rfl)
  have hall := tw_all (fun c => letB c || digB c) (c :: r)
  unfold nameL at h
  split at h
  · cases h
  · rename_i h60
    injection h with h
    rw [hr'] at h hall h60
    subst h
    have htw := tw_app (p := fun c => letB c || digB c) (by decide) (c :: r') hall
    refine ⟨rfl, by simp, fun f rest => skip_none c _ (letB_not hl).1 (letB_not hl).2 f, fun rest => ?_⟩
    show nextL ofL (c :: (r' ++ 32 :: rest)) = _
    unfold nextL
    simp only
    rw [if_pos hl]
    unfold nameL
    rw [show c :: (r' ++ 32 :: rest) = (c :: r') ++ 32 :: rest from rfl, htw rest, if_neg h60]
theorem good_num (c : UInt8) (r : By) (t : Tk) (hd : digB c = true) (h : numL (c :: r) = some t) : GoodT t := by
  obtain ⟨r', hr'⟩ := tw_cons (p := digB) r hd
  have hall := tw_all digB (c :: r)
  unfold numL at h
  split at h
  · rename_i v hv
    split at h
    · cases h
    · rename_i hno
      injection h with h
      rw [hr'] at h hall hv hno
      subst h
      have htw := tw_app (p := digB) (by decide) (c :: r') hall
      refine ⟨rfl, by simp, fun f rest => skip_none c _ (digB_not hd).1 (digB_not hd).2.1 f, fun rest => ?_⟩
      show nextL ofL (c :: (r' ++ 32 :: rest)) = _
      unfold nextL
      simp only
      rw [if_neg (by rw [(digB_not hd).2.2]; exact Bool.noConfusion), if_pos hd]
      unfold numL
      rw [show c :: (r' ++ 32 :: rest) = (c :: r') ++ 32 :: rest from rfl, htw rest, hv]
      simp only
      rw [if_neg]
      rintro (h1 | ⟨h1, h2⟩ | h1)
      · exact hno (.inl h1)
      · exact hno (.inr (.inl ⟨h1, h2⟩))
      · rw [List.drop_left] at h1
        exact absurd (show letB 32 = true from h1) (by decide)
  · cases h
theorem good_sign (x : By) (hx : x ∈ signsL) : GoodT ⟨5, x, 0, x.length⟩ := by
  unfold signsL at hx
  simp only [List.mem_cons, List.not_mem_nil, or_false] at hx
  rcases hx with rfl | rfl | rfl | rfl | rfl | rfl | rfl | rfl | rfl | rfl | rfl | rfl | rfl | rfl | rfl | rfl | rfl | rfl | rfl | rfl | rfl | rfl | rfl | rfl | rfl | rfl | rfl | rfl | rfl | rfl | rfl | rfl | rfl | rfl | rfl | rfl
  all_goals
    refine ⟨rfl, by simp, fun f rest => ?_, fun rest => ?_⟩
    · cases f <;> rfl
    · cases rest <;> rfl
theorem signF_mem : ∀ (n : Nat) (l : By) (t : Tk), n ≤ l.length → signF n l = some t → ∃ x ∈ signsL, t = ⟨5, x, 0, x.length⟩
  | 0, l, t, _, h => by cases h
  | n + 1, l, t, hn, h => by
    unfold signF at h
    split at h
    · rename_i hc
      injection h with h
      subst h
      refine ⟨l.take (n + 1), ?_, ?_⟩
      · exact List.contains_iff_mem.1 hc
      · rw [List.length_take, Nat.min_eq_left hn]
    · exact signF_mem n l t (by omega) h
theorem good_of (l : By) (t : Tk) (h : nextL ofL l = some t) (h4 : t.kind ≠ 4) : GoodT t := by
  cases l with
  | nil => cases h
  | cons c r =>
    unfold nextL at h
    simp only at h
    split at h
    · rename_i hl
      exact good_name c r t hl h
    · split at h
      · rename_i hd
        exact good_num c r t hd h
      · split at h
        · cases hq : quotL ofL c (r.length + 1) r [] [] 1 with
          | none => rw [hq] at h; cases h
          | some p =>
            rw [hq] at h
            injection h with h
            subst h
            exact absurd rfl h4
        · unfold signL at h
          obtain ⟨x, hx, rfl⟩ := signF_mem _ _ _ (Nat.min_le_right ..) h
          exact good_sign x hx
def endT : Tk := ⟨0, [], 0, 0⟩
theorem scan_good : ∀ (f : Nat) (l : By) (p : Nat) (ts : List (Tk × Nat)), scanL ofL f l p = .ok ts → (∀ t ∈ ts, t.1.kind ≠ 4) →
    ∃ (us : List (Tk × Nat)) (q : Nat), ts = us ++ [(endT, q)] ∧ (∀ t ∈ us, GoodT t.1) ∧ (us.flatMap (·.1.text)).length ≤ l.length ∧ us.length ≤ l.length
  | 0, l, p, ts, h, _ => by cases h
  | f + 1, l, p, ts, h, h4 => by
    unfold scanL at h
    split at h
    · cases h
    · split at h
      · injection h with h
        exact ⟨[], _, h.symm, (fun _ h => nomatch h), Nat.zero_le _, Nat.zero_le _⟩
      · split at h
        · cases h
        · rename_i t ht
          have hlen := next_len ofL _ t ht
          split at h
          · cases h
          · rename_i vs hvs
            injection h with h
            subst h
            have hg := good_of _ t ht (h4 _ List.mem_cons_self)
            obtain ⟨us, q, rfl, hg2, hl1, hl2⟩ := scan_good f _ _ _ hvs (fun t ht => h4 t (List.mem_cons_of_mem _ ht))
            rw [List.length_drop] at hl1 hl2 hlen
            have := hg.len
            refine ⟨(t, _) :: us, q, rfl, fun u hu => ?_, ?_, ?_⟩
            · rcases List.mem_cons.1 hu with rfl | hu
              · exact hg
              · exact hg2 u hu
            · rw [List.flatMap_cons, List.length_append]
              show t.text.length + _ ≤ _
              omega
            · rw [List.length_cons]
              omega
/-- Texts, each with a blank and what pk picks behind it. -/
def spL (pk : Nat → Nat) : Nat → List Tk → By
  | _, [] => []
  | i, t :: ts => t.text ++ 32 :: (sepL (pk i) ++ spL pk (i + 1) ts)
theorem spL_app (pk : Nat → Nat) : ∀ (a b : List Tk) (i : Nat), spL pk i (a ++ b) = spL pk i a ++ spL pk (i + a.length) b
  | [], b, i => rfl
  | t :: a, b, i => by
    show t.text ++ 32 :: (sepL (pk i) ++ spL pk (i + 1) (a ++ b)) = (t.text ++ 32 :: (sepL (pk i) ++ spL pk (i + 1) a)) ++ spL pk (i + (a.length + 1)) b
    rw [spL_app pk a b (i + 1), show i + 1 + a.length = i + (a.length + 1) by omega]
    simp only [List.append_assoc, List.cons_append]
theorem spL_len (pk : Nat → Nat) : ∀ (a : List Tk) (i : Nat), (spL pk i a).length ≤ (a.flatMap (·.text)).length + 8 * a.length
  | [], i => Nat.le_refl _
  | t :: a, i => by
    have h1 := spL_len pk a (i + 1)
    have h2 := sepL_len (pk i)
    show (t.text ++ 32 :: (sepL (pk i) ++ spL pk (i + 1) a)).length ≤ _
    rw [List.flatMap_cons, List.length_append, List.length_append, List.length_cons, List.length_append, List.length_cons]
    omega
def view (v : Tk) : Nat × By × Int := (v.kind, v.text, v.n)
theorem sp_scan (pk : Nat → Nat) : ∀ (us : List Tk) (i f p : Nat) (B : By), (∀ X : By, skipL (B ++ X).length (B ++ X) = (B.length + (skipL X.length X).1, (skipL X.length X).2)) → (∀ t ∈ us, GoodT t) → us.length + 1 ≤ f →
    ∃ vs : List (Tk × Nat), scanL ofL f (B ++ spL pk i (us ++ [endT])) p = .ok vs ∧ vs.map (fun v => view v.1) = (us ++ [endT]).map view
  | [], i, f, p, B, hB, _, hf => by
    obtain ⟨f, rfl⟩ : ∃ g, f = g + 1 := ⟨f - 1, by simp at hf; omega⟩
    have h0 : spL pk i ([] ++ [endT]) = 32 :: (sepL (pk i) ++ []) := rfl
    have hs : skipL (B ++ spL pk i ([] ++ [endT])).length (B ++ spL pk i ([] ++ [endT])) = ((B ++ spL pk i ([] ++ [endT])).length, true) := by
      rw [hB, h0]
      have h1 : skipL (32 :: (sepL (pk i) ++ [])).length (32 :: (sepL (pk i) ++ [])) = (1 + (sepL (pk i)).length, true) := by
        rw [skip_fuel _ ((32 :: (sepL (pk i) ++ [])).length + 9) _ (Nat.le_refl _) (by omega), skip_sep (pk i) [] _ (by simp)]
        rfl
      rw [h1]
      simp only [List.length_append, List.length_cons, List.length_nil]
      congr 1
      omega
    refine ⟨_, scan_end (by rw [hs]) (by rw [hs]; exact List.drop_eq_nil_of_le (Nat.le_refl _)), rfl⟩
  | t :: us, i, f, p, B, hB, hg, hf => by
    obtain ⟨f, rfl⟩ : ∃ g, f = g + 1 := ⟨f - 1, by simp at hf; omega⟩
    have hgt := hg t (by simp)
    obtain ⟨Y, hY⟩ : ∃ Y, spL pk i (t :: us ++ [endT]) = t.text ++ 32 :: (sepL (pk i) ++ Y) ∧ Y = spL pk (i + 1) (us ++ [endT]) := ⟨_, rfl, rfl⟩
    have hs : skipL (B ++ spL pk i (t :: us ++ [endT])).length (B ++ spL pk i (t :: us ++ [endT])) = (B.length, true) := by
      rw [hB, hY.1, hgt.skip]
      rfl
    have hd : (B ++ spL pk i (t :: us ++ [endT])).drop B.length = t.text ++ 32 :: (sepL (pk i) ++ Y) := by rw [hY.1, List.drop_left]
    have hd2 : (B ++ spL pk i (t :: us ++ [endT])).drop (B.length + t.len) = (32 :: sepL (pk i)) ++ Y := by
      rw [← List.drop_drop, hd, hgt.len, List.drop_left]
      rfl
    have hnx : nextL ofL ((B ++ spL pk i (t :: us ++ [endT])).drop B.length) = some t := by rw [hd]; exact hgt.next _
    obtain ⟨vs, h1, h2⟩ := sp_scan pk us (i + 1) f (p + B.length + t.len) (32 :: sepL (pk i)) (fun X => by
      show skipL (32 :: (sepL (pk i) ++ X)).length (32 :: (sepL (pk i) ++ X)) = _
      rw [skip_fuel _ ((32 :: (sepL (pk i) ++ X)).length + 9) _ (Nat.le_refl _) (by omega), skip_sep (pk i) X _ (by simp only [List.length_cons, List.length_append]; omega)]
      simp only [List.length_cons]
      congr 1
      omega) (fun u hu => hg u (by simp [hu])) (by simp at hf; omega)
    have h3 := scan_next (ts := []) (p := p) (f := f) (by rw [hs]) (by rw [hs]; show List.drop B.length _ ≠ []; rw [hd]; have := hgt.ne; cases ht : t.text with
      | nil => exact absurd ht this
      | cons a b => exact nofun) (by rw [hs]; exact hnx)
    rw [hs] at h3
    simp only at h3
    rw [hd2, hY.2, h1] at h3
    refine ⟨(t, p + B.length) :: vs, ?_, ?_⟩
    · cases hsc : scanL ofL (f + 1) (B ++ spL pk i (t :: us ++ [endT])) p with
      | error e => rw [hsc] at h3; cases h3
      | ok ws =>
        rw [hsc] at h3
        simp only [joinS, List.nil_append, List.cons_append] at h3
        injection h3 with h3
        rw [h3]
    · rw [List.map_cons, h2]
      rfl
theorem blanks_scan (pk : Nat → Nat) (s : By) (ts : List (Tk × Nat)) (hs : s.length ≤ 1000) (h : scanS s = .ok ts) (h4 : ∀ t ∈ ts, t.1.kind ≠ 4) :
    (spL pk 0 (ts.map (·.1))).length ≤ 10000 ∧ ∃ us : List (Tk × Nat), scanS (spL pk 0 (ts.map (·.1))) = .ok us ∧ us.map (fun v => view v.1) = ts.map (fun v => view v.1) := by
  unfold scanS at h
  rw [if_neg (by omega)] at h
  have h' : scanL ofL (s.length + 1) s 0 = .ok ts := by
    cases hq : scanL ofL (s.length + 1) s 0 with
    | error e => rw [hq] at h; cases h
    | ok us => rw [hq] at h; injection h with h; rw [← h]; rfl
  obtain ⟨us, q, rfl, hg, h1, h2⟩ := scan_good _ _ _ _ h' h4
  have hm : (us ++ [(endT, q)]).map (·.1) = us.map (·.1) ++ [endT] := by rw [List.map_append]; rfl
  have hfl : ((us.map (·.1) ++ [endT]).flatMap (·.text)).length = (us.flatMap (·.1.text)).length := by
    rw [List.flatMap_append, List.length_append]
    show _ + 0 = _
    rw [Nat.add_zero, List.flatMap_map]
  have hL : (spL pk 0 (us.map (·.1) ++ [endT])).length ≤ 10000 := by
    have := spL_len pk (us.map (·.1) ++ [endT]) 0
    rw [hfl, List.length_append, List.length_map] at this
    simp only [List.length_cons, List.length_nil] at this
    omega
  rw [hm]
  refine ⟨hL, ?_⟩
  obtain ⟨vs, h3, h4⟩ := sp_scan pk (us.map (·.1)) 0 ((spL pk 0 (us.map (·.1) ++ [endT])).length + 1) 0 [] (fun X => by simp) (fun t ht => by
    obtain ⟨u, hu, rfl⟩ := List.mem_map.1 ht
    exact hg u hu) (by
      rw [spL_app, List.length_append, List.length_map]
      have h5 : ∀ (a : List Tk) (i : Nat), a.length ≤ (spL pk i a).length := by
        intro a
        induction a with
        | nil => intro i; exact Nat.le_refl _
        | cons t a ih =>
          intro i
          have := ih (i + 1)
          show a.length + 1 ≤ (t.text ++ 32 :: (sepL (pk i) ++ spL pk (i + 1) a)).length
          rw [List.length_append, List.length_cons, List.length_append]
          omega
      have := h5 (us.map (·.1)) 0
      rw [List.length_map] at this
      omega)
  refine ⟨vs, ?_, ?_⟩
  · unfold scanS
    rw [if_neg (by omega)]
    rw [List.nil_append] at h3
    rw [h3]
    rfl
  · rw [h4, ← hm, List.map_map]
    rfl
end Go.Proofs.YtfejompnjaifmaaDoor
