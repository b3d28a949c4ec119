/- TextGo: what Go answers, by plain lists; it undoes Of for plain text. -/
import Derived.Test.YtbkgophgclpijaaSg
import Derived.Lib.RuneBytes
namespace Go.Proofs.Ytbkgophgclpijaa
open Go.RowKit

def hexD (n : Nat) : UInt8 := if n < 10 then UInt8.ofNat (48 + n) else UInt8.ofNat (55 + n)
def hex4 (c : Nat) : List UInt8 := [hexD (c / 4096 % 16), hexD (c / 256 % 16), hexD (c / 16 % 16), hexD (c % 16)]
/-- What stands for a character of code point c. -/
def goR (c : Nat) : List UInt8 := if c = 92 then [92, 92] else if c < 32 ∨ c = 127 ∨ (55296 ≤ c ∧ c ≤ 57343) then 92 :: 117 :: hex4 c else Lib.encodeRune (c : Int)
/-- The code point of a character's units. -/
def cpO (us : List Nat) : Nat := (ptP (us[0]?.getD 0) (us[1]?.getD 0)).1
def goL (S : List (List Nat)) : List UInt8 := S.flatMap (fun us => goR (cpO us))

def Scal (c : Nat) : Prop := c < 55296 ∨ (57344 ≤ c ∧ c ≤ 1114111)
theorem get_at (s : ByteArray) (i : Nat) (h : i < s.size) : s.get! i = s[i] := by
  rw [ByteArray.getElem_eq_getElem_data]
  show s.data[i]! = _
  rw [getElem!_pos]
theorem drop_one (s : ByteArray) (p : Nat) (h : p < s.size) : s.data.toList.drop p = s[p] :: s.data.toList.drop (p + 1) := by
  rw [List.drop_eq_getElem_cons (by simpa using h)]; rfl
theorem byte_eq (x : UInt8) (z : Int) (h0 : 0 ≤ z) (h : (x.toNat : Int) = z) : x = z.toNat.toUInt8 := by
  have hx := x.toNat_lt
  apply UInt8.toNat_inj.1
  simp
  omega
theorem byte_z (x : UInt8) (z : Int) (h : (x.toNat : Int) = z) : z.toNat.toUInt8 = x := by
  subst h
  simp
theorem dec_cases (s : ByteArray) (p : Nat) (hp : p < s.size) :
    (s[p].toNat < 128 ∧ Utf8.decode s p = (s[p].toNat, 1)) ∨
    (∃ h1 : p + 1 < s.size, s[p].toNat / 32 = 6 ∧ s[p + 1].toNat / 64 = 2 ∧ 128 ≤ s[p].toNat % 32 * 64 + s[p + 1].toNat % 64 ∧ Utf8.decode s p = (s[p].toNat % 32 * 64 + s[p + 1].toNat % 64, 2)) ∨
    (∃ (h1 : p + 1 < s.size) (h2 : p + 2 < s.size), s[p].toNat / 16 = 14 ∧ s[p + 1].toNat / 64 = 2 ∧ s[p + 2].toNat / 64 = 2 ∧ 2048 ≤ s[p].toNat % 16 * 4096 + s[p + 1].toNat % 64 * 64 + s[p + 2].toNat % 64 ∧ Utf8.valid ((s[p].toNat % 16 * 4096 + s[p + 1].toNat % 64 * 64 + s[p + 2].toNat % 64 : Nat) : Int) = true ∧ Utf8.decode s p = (s[p].toNat % 16 * 4096 + s[p + 1].toNat % 64 * 64 + s[p + 2].toNat % 64, 3)) ∨
    (∃ (h1 : p + 1 < s.size) (h2 : p + 2 < s.size) (h3 : p + 3 < s.size), s[p].toNat / 8 = 30 ∧ s[p + 1].toNat / 64 = 2 ∧ s[p + 2].toNat / 64 = 2 ∧ s[p + 3].toNat / 64 = 2 ∧ 65536 ≤ s[p].toNat % 8 * 262144 + s[p + 1].toNat % 64 * 4096 + s[p + 2].toNat % 64 * 64 + s[p + 3].toNat % 64 ∧ Utf8.valid ((s[p].toNat % 8 * 262144 + s[p + 1].toNat % 64 * 4096 + s[p + 2].toNat % 64 * 64 + s[p + 3].toNat % 64 : Nat) : Int) = true ∧ Utf8.decode s p = (s[p].toNat % 8 * 262144 + s[p + 1].toNat % 64 * 4096 + s[p + 2].toNat % 64 * 64 + s[p + 3].toNat % 64, 4)) ∨
    Utf8.decode s p = (65533, 1) := by
  have g0 : s.get! (p + 0) = s[p] := get_at s p hp
  unfold Utf8.decode
  dsimp only
  simp only [g0]
  split
  · exact .inl ⟨by assumption, rfl⟩
  · split
    · rename_i h
      simp only [Bool.and_eq_true, beq_iff_eq, decide_eq_true_eq] at h
      obtain ⟨h2, h3, h4⟩ := h
      simp only [get_at s (p + 1) h3] at h4 ⊢
      split
      · exact .inr (.inl ⟨h3, h2, h4, by assumption, rfl⟩)
      · exact .inr (.inr (.inr (.inr rfl)))
    · split
      · rename_i h
        simp only [Bool.and_eq_true, beq_iff_eq, decide_eq_true_eq] at h
        obtain ⟨⟨h2, h3, h4⟩, h5, h6⟩ := h
        simp only [get_at s (p + 1) h3, get_at s (p + 2) h5] at h4 h6 ⊢
        split
        · rename_i h
          simp only [Bool.and_eq_true, decide_eq_true_eq] at h
          exact .inr (.inr (.inl ⟨h3, h5, h2, h4, h6, h.1, h.2, rfl⟩))
        · exact .inr (.inr (.inr (.inr rfl)))
      · split
        · rename_i h
          simp only [Bool.and_eq_true, beq_iff_eq, decide_eq_true_eq] at h
          obtain ⟨⟨⟨h2, h3, h4⟩, h5, h6⟩, h7, h8⟩ := h
          simp only [get_at s (p + 1) h3, get_at s (p + 2) h5, get_at s (p + 3) h7] at h4 h6 h8 ⊢
          split
          · rename_i h
            simp only [Bool.and_eq_true, decide_eq_true_eq] at h
            exact .inr (.inr (.inr (.inl ⟨h3, h5, h7, h2, h4, h6, h8, h.1, h.2, rfl⟩)))
          · exact .inr (.inr (.inr (.inr rfl)))
        · exact .inr (.inr (.inr (.inr rfl)))
theorem valid_scal {c : Nat} (h : Utf8.valid (c : Int) = true) : Scal c := by
  simp [Utf8.valid] at h
  unfold Scal
  omega
theorem dec_ok (s : ByteArray) (p : Nat) (hp : p < s.size) (hne : (Utf8.decode s p).1 ≠ 65533) :
    Scal (Utf8.decode s p).1 ∧ p + (Utf8.decode s p).2 ≤ s.size ∧ (s.data.toList.drop p).take (Utf8.decode s p).2 = Lib.encodeRune ((Utf8.decode s p).1 : Int) := by
  have b0 := s[p].toNat_lt
  rcases dec_cases s p hp with ⟨h, e⟩ | ⟨h1, a, b, c, e⟩ | ⟨h1, h2, a, b, c, d, hv, e⟩ | ⟨h1, h2, h3, a, b, c, d, f, hv, e⟩ | e
  · rw [e]
    refine ⟨.inl (by dsimp only; omega), by dsimp only; omega, ?_⟩
    rw [drop_one s p hp]
    unfold Lib.encodeRune
    rw [Lib.encodeRuneZ_one (by dsimp only; omega) (by dsimp only; omega)]
    simp only [List.take_succ_cons, List.take_zero, List.map_cons, List.map_nil]
    rw [byte_z s[p] _ (by dsimp only)]
  · rw [e]
    have b1 := s[p + 1].toNat_lt
    refine ⟨.inl (by dsimp only; omega), by dsimp only; omega, ?_⟩
    rw [drop_one s p hp, drop_one s (p + 1) h1]
    unfold Lib.encodeRune
    rw [Lib.encodeRuneZ_two (by dsimp only; omega) (by dsimp only; omega)]
    simp only [List.take_succ_cons, List.take_zero, List.map_cons, List.map_nil]
    rw [byte_z s[p] _ (by omega), byte_z s[p + 1] _ (by omega)]
  · rw [e]
    have hs := valid_scal hv
    have b1 := s[p + 1].toNat_lt
    have b2 := s[p + 2].toNat_lt
    refine ⟨hs, by dsimp only; omega, ?_⟩
    rw [drop_one s p hp, drop_one s (p + 1) h1, drop_one s (p + 1 + 1) h2]
    unfold Scal at hs
    unfold Lib.encodeRune
    rw [Lib.encodeRuneZ_three (by dsimp only; omega)]
    simp only [List.take_succ_cons, List.take_zero, List.map_cons, List.map_nil]
    rw [byte_z s[p] _ (by omega), byte_z s[p + 1] _ (by omega), byte_z s[p + 1 + 1] _ (by show (s[p + 2].toNat : Int) = _; omega)]
  · rw [e]
    have hs := valid_scal hv
    have b1 := s[p + 1].toNat_lt
    have b2 := s[p + 2].toNat_lt
    have b3 := s[p + 3].toNat_lt
    refine ⟨hs, by dsimp only; omega, ?_⟩
    rw [drop_one s p hp, drop_one s (p + 1) h1, drop_one s (p + 1 + 1) h2, drop_one s (p + 1 + 1 + 1) h3]
    unfold Scal at hs
    unfold Lib.encodeRune
    rw [Lib.encodeRuneZ_four (by dsimp only; omega) (by dsimp only; omega)]
    simp only [List.take_succ_cons, List.take_zero, List.map_cons, List.map_nil]
    rw [byte_z s[p] _ (by omega), byte_z s[p + 1] _ (by omega), byte_z s[p + 1 + 1] _ (by show (s[p + 2].toNat : Int) = _; omega), byte_z s[p + 1 + 1 + 1] _ (by show (s[p + 3].toNat : Int) = _; omega)]
  · rw [e] at hne
    exact absurd rfl hne

/-- The units of a character. -/
def uOf (c : Nat) : List Nat := if c < 65536 then [c] else [55296 + (c - 65536) / 1024, 56320 + (c - 65536) % 1024]
theorem units_ofR (c : Nat) (hc : c ≤ 1114111) (r : List UInt8) : units (ofR c ++ r) = uOf c ++ units r := by
  unfold ofR uOf
  by_cases h : c < 65536
  · rw [if_pos h, if_pos h]
    show units (UInt8.ofNat (c / 256) :: UInt8.ofNat c :: r) = _
    simp only [units, List.cons_append, List.nil_append]
    congr 1
    simp; omega
  · rw [if_neg h, if_neg h]
    obtain ⟨x, hx⟩ : ∃ x, x = 55296 + (c - 65536) / 1024 := ⟨_, rfl⟩
    obtain ⟨y, hy⟩ : ∃ y, y = 56320 + (c - 65536) % 1024 := ⟨_, rfl⟩
    have x1 : x < 65536 := by omega
    have y1 : y < 65536 := by omega
    rw [← hx, ← hy]
    show units (UInt8.ofNat (x / 256) :: UInt8.ofNat x :: UInt8.ofNat (y / 256) :: UInt8.ofNat y :: r) = _
    simp only [units, List.cons_append, List.nil_append]
    congr 1
    · simp; omega
    · congr 1
      simp; omega
theorem signs_uOf (c : Nat) (hc : Scal c) (r : List Nat) : signs (uOf c ++ r) = uOf c :: signs r := by
  unfold Scal at hc
  unfold uOf
  by_cases h : c < 65536
  · rw [if_pos h]
    have e : isHi c = false := hi_false (by omega)
    show signs (c :: r) = [c] :: signs r
    cases r with
    | nil => rfl
    | cons v r => simp [signs, e]
  · rw [if_neg h]
    have e1 : isHi (55296 + (c - 65536) / 1024) = true := (isHi_eq _).2 (by omega)
    have e2 : isLo (56320 + (c - 65536) % 1024) = true := (isLo_eq _).2 (by omega)
    show signs (_ :: _ :: r) = _
    rw [signs, if_pos (by rw [e1, e2]; rfl)]
theorem cpO_uOf (c : Nat) (hc : Scal c) : cpO (uOf c) = c := by
  unfold Scal at hc
  unfold cpO uOf
  by_cases h : c < 65536
  · rw [if_pos h]
    simp [ptP, isLo_zero]
  · rw [if_neg h]
    have e1 : isHi (55296 + (c - 65536) / 1024) = true := (isHi_eq _).2 (by omega)
    have e2 : isLo (56320 + (c - 65536) % 1024) = true := (isLo_eq _).2 (by omega)
    obtain ⟨x, hx⟩ : ∃ x, x = 55296 + (c - 65536) / 1024 := ⟨_, rfl⟩
    obtain ⟨y, hy⟩ : ∃ y, y = 56320 + (c - 65536) % 1024 := ⟨_, rfl⟩
    rw [← hx] at e1
    rw [← hy] at e2
    rw [← hx, ← hy]
    show (ptP x y).1 = c
    unfold ptP
    rw [if_pos (by rw [e1, e2]; rfl)]
    show 65536 + (x - 55296) * 1024 + (y - 56320) = c
    omega
/-- A plain character: what Go leaves as it stands. -/
def Good (c : Nat) : Prop := 32 ≤ c ∧ c ≠ 127 ∧ c ≠ 92 ∧ c ≠ 65533
theorem goR_good (c : Nat) (hc : Scal c) (h : Good c) : goR c = Lib.encodeRune (c : Int) := by
  unfold Scal at hc
  unfold Good at h
  unfold goR
  rw [if_neg (by omega), if_neg (by omega)]
/-- From a place on all characters are plain. -/
def Plain (s : ByteArray) : Nat → Nat → Prop
  | 0, _ => True
  | f + 1, p => p < s.size → Good (Utf8.decode s p).1 ∧ Plain s f (p + (Utf8.decode s p).2)
theorem go_of_from (s : ByteArray) : ∀ (f p : Nat), s.size ≤ p + f → p ≤ s.size → Plain s f p → goL (signs (units (ofFrom s f p))) = s.data.toList.drop p
  | 0, p, hf, hp, _ => by
    rw [List.drop_of_length_le (by simp; omega)]; rfl
  | f + 1, p, hf, hp, h => by
    by_cases hlt : p < s.size
    · obtain ⟨hg, hr⟩ := h hlt
      have hw := width_pos s p hlt
      obtain ⟨h1, h2, h3⟩ := dec_ok s p hlt hg.2.2.2
      rw [ofFrom_step s f p hlt, units_ofR _ (decode_top s p), signs_uOf _ h1]
      show goR (cpO (uOf _)) ++ goL _ = _
      rw [go_of_from s f _ (by omega) h2 hr, cpO_uOf _ h1, goR_good _ h1 hg, ← h3, ← List.drop_drop, List.take_append_drop]
    · rw [ofFrom_end s _ p hlt, List.drop_of_length_le (by simp; omega)]; rfl
theorem go_of (s : ByteArray) (h : Plain s s.size 0) : goL (signs (unitsS ⟨(ofB s).toArray⟩)) = s.data.toList := by
  unfold unitsS ofB
  have := go_of_from s s.size 0 (by omega) (by omega) h
  simpa using this
end Go.Proofs.Ytbkgophgclpijaa
