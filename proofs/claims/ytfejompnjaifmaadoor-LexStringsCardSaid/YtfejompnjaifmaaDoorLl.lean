/- Package lex, as mathematics: lengths, fuel; what Scan answers. -/
import Derived.Test.YtfejompnjaifmaaDoorLk
namespace Go.Proofs.YtfejompnjaifmaaDoor
open Go

theorem skip_fuel : ∀ (f f' : Nat) (l : By), l.length ≤ f → l.length ≤ f' → skipL f l = skipL f' l
  | f, f', [], _, _ => by rw [skip_nil, skip_nil]
  | 0, _, c :: r, h, _ => by simp at h
  | _, 0, c :: r, _, h => by simp at h
  | f + 1, f' + 1, c :: r, h, h' => by
    rw [List.length_cons] at h h'
    have key : ∀ k, 1 ≤ k → skipL f ((c :: r).drop k) = skipL f' ((c :: r).drop k) := fun k hk =>
      skip_fuel f f' _ (by rw [List.length_drop, List.length_cons]; omega) (by rw [List.length_drop, List.length_cons]; omega)
    unfold skipL
    have k1 := key 1 (Nat.le_refl _)
    rw [show (c :: r).drop 1 = r from rfl] at k1
    rw [k1, key _ (by omega), key _ (by omega)]
theorem skip_le : ∀ (f : Nat) (l : By), (skipL f l).1 ≤ l.length
  | 0, l => by unfold skipL; exact Nat.zero_le _
  | f + 1, [] => by rw [skip_nil]; exact Nat.zero_le _
  | f + 1, c :: r => by
    have key : ∀ k, k ≤ (c :: r).length → k + (skipL f ((c :: r).drop k)).1 ≤ (c :: r).length := fun k hk => by
      have := skip_le f ((c :: r).drop k)
      rw [List.length_drop] at this
      omega
    unfold skipL
    split
    · have k1 := key 1 (by rw [List.length_cons]; omega)
      exact k1
    · split
      · split
        · exact Nat.le_refl _
        · refine key _ ?_
          rcases indexByte_lt (c :: r) 10 with h | ⟨h, h2⟩
          · omega
          · cases h2
      · split
        · split
          · exact Nat.zero_le _
          · refine key _ ?_
            have h := index_lt ((c :: r).drop 2) [42, 47] (by simp) (by omega)
            rw [List.length_drop] at h
            simp only [List.length_cons, List.length_nil] at h ⊢
            omega
        · exact Nat.zero_le _
theorem quot_len (of : By → By) (q : UInt8) : ∀ (f : Nat) (l plain acc : By) (k : Nat) (x : By) (m : Nat), quotL of q f l plain acc k = some (x, m) → k < m ∧ m ≤ k + l.length
  | 0, l, plain, acc, k, x, m, h => by cases h
  | f + 1, [], plain, acc, k, x, m, h => by cases h
  | f + 1, c :: r, plain, acc, k, x, m, h => by
    unfold quotL at h
    rw [List.length_cons]
    split at h
    · cases h
    · split at h
      · injection h with h
        injection h with h1 h2
        omega
      · split at h
        · cases he : escL r with
          | none => rw [he] at h; cases h
          | some un =>
            obtain ⟨u, n⟩ := un
            rw [he] at h
            have h2 := escL_ok he
            have h3 := quot_len of q f _ _ _ _ _ _ h
            rw [List.length_drop] at h3
            omega
        · have h3 := quot_len of q f _ _ _ _ _ _ h
          omega
theorem take_len {f : UInt8 → Bool} {c : UInt8} {r : By} (h : f c = true) : 1 ≤ ((c :: r).takeWhile f).length := by
  rw [List.takeWhile_cons, if_pos h, List.length_cons]
  omega
theorem takeW_le (f : UInt8 → Bool) (l : By) : (l.takeWhile f).length ≤ l.length := by
  have := List.IsPrefix.length_le (List.takeWhile_prefix f (l := l))
  exact this
theorem signF_len : ∀ (n : Nat) (l : By) (t : Tk), signF n l = some t → 1 ≤ t.len ∧ t.len ≤ n
  | 0, l, t, h => by cases h
  | n + 1, l, t, h => by
    unfold signF at h
    split at h
    · injection h with h
      subst h
      exact ⟨by show 1 ≤ n + 1; omega, Nat.le_refl _⟩
    · have := signF_len n l t h
      omega
theorem next_len (of : By → By) (l : By) (t : Tk) (h : nextL of l = some t) : 1 ≤ t.len ∧ t.len ≤ l.length := by
  cases l with
  | nil => cases h
  | cons c r =>
    unfold nextL at h
    simp only at h
    split at h
    · rename_i hl
      unfold nameL at h
      split at h
      · cases h
      · injection h with h
        subst h
        exact ⟨take_len (by rw [hl]; rfl), takeW_le _ _⟩
    · split at h
      · rename_i hd
        unfold numL at h
        split at h
        · split at h
          · cases h
          · injection h with h
            subst h
            exact ⟨take_len hd, takeW_le _ _⟩
        · cases h
      · split at h
        · cases hq : quotL of c (r.length + 1) r [] [] 1 with
          | none => rw [hq] at h; cases h
          | some p =>
            rw [hq] at h
            injection h with h
            subst h
            have := quot_len of c _ _ _ _ _ p.1 p.2 hq
            rw [List.length_cons]
            exact ⟨by show 1 ≤ p.2; omega, by show p.2 ≤ _; omega⟩
        · have := signF_len _ _ _ h
          have h2 : min 3 (c :: r).length ≤ (c :: r).length := Nat.min_le_right ..
          omega
/-- What Scan answers: a fault's kind and place, or the tokens. -/
def joinS (ts : List (Tk × Nat)) : Except Nat (List (Tk × Nat)) → Except (Nat × Nat) (List (Tk × Nat))
  | .error a => .error (3, a)
  | .ok us => .ok (ts ++ us)
def scanS (s : By) : Except (Nat × Nat) (List (Tk × Nat)) := if 16384 < s.length then .error (2, 16384) else joinS [] (scanL ofL (s.length + 1) s 0)
/-- The cells of tokens. -/
def tkC (t : Tk × Nat) : List Value := [.int .i64 (t.1.kind : Int), .string ⟨t.1.text.toArray⟩, .int .i64 (t.2 : Int), .int .i64 t.1.n]
def tkFlat (ts : List (Tk × Nat)) : List Value := ts.flatMap tkC
theorem tkFlat_snoc (ts : List (Tk × Nat)) (t : Tk × Nat) : tkFlat (ts ++ [t]) = tkFlat ts ++ tkC t := by
  unfold tkFlat
  rw [List.flatMap_append]
  simp
theorem scan_bad {f p : Nat} {l : By} (h : (skipL l.length l).2 = false) : scanL ofL (f + 1) l p = .error (p + (skipL l.length l).1) := by
  unfold scanL
  rw [if_pos h]
theorem scan_end {f p : Nat} {l : By} (h : (skipL l.length l).2 = true) (h2 : l.drop (skipL l.length l).1 = []) : scanL ofL (f + 1) l p = .ok [(⟨0, [], 0, 0⟩, p + (skipL l.length l).1)] := by
  unfold scanL
  rw [if_neg (by rw [h]; exact Bool.noConfusion), if_pos h2]
theorem scan_none {f p : Nat} {l : By} (h : (skipL l.length l).2 = true) (h2 : l.drop (skipL l.length l).1 ≠ []) (h3 : nextL ofL (l.drop (skipL l.length l).1) = none) : scanL ofL (f + 1) l p = .error (p + (skipL l.length l).1) := by
  unfold scanL
  rw [if_neg (by rw [h]; exact Bool.noConfusion), if_neg h2, h3]
theorem scan_next {f p : Nat} {l : By} {t : Tk} {ts : List (Tk × Nat)} (h : (skipL l.length l).2 = true) (h2 : l.drop (skipL l.length l).1 ≠ []) (h3 : nextL ofL (l.drop (skipL l.length l).1) = some t) :
    joinS ts (scanL ofL (f + 1) l p) = joinS (ts ++ [(t, p + (skipL l.length l).1)]) (scanL ofL f (l.drop ((skipL l.length l).1 + t.len)) (p + (skipL l.length l).1 + t.len)) := by
  conv => lhs; unfold scanL
  rw [if_neg (by rw [h]; exact Bool.noConfusion), if_neg h2, h3]
  simp only
  cases scanL ofL f (l.drop ((skipL l.length l).1 + t.len)) (p + (skipL l.length l).1 + t.len) with
  | error e => rfl
  | ok us => simp [joinS]
end Go.Proofs.YtfejompnjaifmaaDoor
