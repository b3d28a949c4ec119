/- Package lex, as mathematics: blanks, tokens, a whole text; no program. -/
import Derived.Test.YtfejompnjaifmaaDoorRows
import Derived.Lib.Strings
import Derived.Lib.Bytealg
import Derived.Lib.Index
import Derived.Lib.ParseIntB
namespace Go.Proofs.YtfejompnjaifmaaDoor
open Go

abbrev By := List UInt8
def blankB (c : UInt8) : Bool := decide (c.toNat = 32 ∨ c.toNat = 9 ∨ c.toNat = 10 ∨ c.toNat = 13)
def letB (c : UInt8) : Bool := decide ((97 ≤ c.toNat ∧ c.toNat ≤ 122) ∨ (65 ≤ c.toNat ∧ c.toNat ≤ 90) ∨ c.toNat = 95 ∨ c.toNat = 36)
def digB (c : UInt8) : Bool := decide (48 ≤ c.toNat ∧ c.toNat ≤ 57)
/-- How far the blanks go, and whether they end. -/
def skipL : Nat → By → Nat × Bool
  | 0, _ => (0, true)
  | _ + 1, [] => (0, true)
  | f + 1, c :: r =>
    if blankB c then (1 + (skipL f r).1, (skipL f r).2)
    else if Lib.hasPrefix (c :: r) [47, 47] then
      if Lib.indexByte (c :: r) 10 < 0 then ((c :: r).length, true)
      else ((Lib.indexByte (c :: r) 10).toNat + 1 + (skipL f ((c :: r).drop ((Lib.indexByte (c :: r) 10).toNat + 1))).1, (skipL f ((c :: r).drop ((Lib.indexByte (c :: r) 10).toNat + 1))).2)
    else if Lib.hasPrefix (c :: r) [47, 42] then
      if Lib.index ((c :: r).drop 2) [42, 47] < 0 then (0, false)
      else ((Lib.index ((c :: r).drop 2) [42, 47]).toNat + 4 + (skipL f ((c :: r).drop ((Lib.index ((c :: r).drop 2) [42, 47]).toNat + 4))).1, (skipL f ((c :: r).drop ((Lib.index ((c :: r).drop 2) [42, 47]).toNat + 4))).2)
    else (0, true)
/-- Key words. -/
def wordsL : List By := [[98, 114, 101, 97, 107], [99, 97, 116, 99, 104], [99, 108, 97, 115, 115], [99, 111, 110, 115, 116], [99, 111, 110, 116, 105, 110, 117, 101], [100, 101, 108, 101, 116, 101], [100, 111], [101, 108, 115, 101], [101, 120, 116, 101, 110, 100, 115], [102, 97, 108, 115, 101], [102, 105, 110, 97, 108, 108, 121], [102, 111, 114], [102, 117, 110, 99, 116, 105, 111, 110], [105, 102], [105, 110], [105, 110, 115, 116, 97, 110, 99, 101, 111, 102], [108, 101, 116], [110, 101, 119], [110, 117, 108, 108], [114, 101, 116, 117, 114, 110], [115, 117, 112, 101, 114], [116, 104, 105, 115], [116, 104, 114, 111, 119], [116, 114, 117, 101], [116, 114, 121], [116, 121, 112, 101, 111, 102], [119, 104, 105, 108, 101], [121, 105, 101, 108, 100]]
def signsL : List By := [[46, 46, 46], [61, 61, 61], [33, 61, 61], [38, 38], [124, 124], [63, 63], [61, 62], [43, 43], [45, 45], [43, 61], [45, 61], [42, 61], [47, 61], [37, 61], [60, 61], [62, 61], [40], [41], [91], [93], [123], [125], [46], [44], [59], [58], [63], [33], [61], [43], [45], [42], [47], [37], [60], [62]]
/-- A token's kind, text and value, and its length in the source. -/
structure Tk where
  kind : Nat
  text : By
  n : Int
  len : Nat
def nameL (l : By) : Option Tk :=
  if 60 < (l.takeWhile fun c => letB c || digB c).length then none else some ⟨if wordsL.contains (l.takeWhile fun c => letB c || digB c) then 2 else 1, l.takeWhile fun c => letB c || digB c, 0, (l.takeWhile fun c => letB c || digB c).length⟩
def numL (l : By) : Option Tk :=
  match Lib.parseIntB 64 (l.takeWhile digB) with
  | .ok v => if 9007199254740991 < v ∨ (1 < (l.takeWhile digB).length ∧ l.head? = some 48) ∨ ((l.drop (l.takeWhile digB).length).head?.any letB = true) then none else some ⟨3, l.takeWhile digB, v, (l.takeWhile digB).length⟩
  | _ => none
def signF : Nat → By → Option Tk
  | 0, _ => none
  | n + 1, l => if signsL.contains (l.take (n + 1)) = true then some ⟨5, l.take (n + 1), 0, n + 1⟩ else signF n l
def signL (l : By) : Option Tk := signF (min 3 l.length) l
def hexDigs : By := [48, 49, 50, 51, 52, 53, 54, 55, 56, 57, 97, 98, 99, 100, 101, 102, 65, 66, 67, 68, 69, 70]
def hexV (c : UInt8) : Option Nat :=
  if Lib.indexByte hexDigs c < 0 then none else some (if 15 < Lib.indexByte hexDigs c then (Lib.indexByte hexDigs c - 6).toNat else (Lib.indexByte hexDigs c).toNat)
def hexF : Nat → By → Option Nat
  | u, [] => some u
  | u, c :: r => match hexV c with
    | none => none
    | some d => hexF ((u * 16 + d) % 65536) r
/-- What an escape behind its backslash denotes, and its length. -/
def escL (l : By) : Option (Nat × Nat) :=
  match l with
  | [] => none
  | c :: _ =>
    if c = 110 then some (10, 1) else if c = 116 then some (9, 1) else if c = 48 then some (0, 1) else if c = 92 ∨ c = 39 ∨ c = 34 then some (c.toNat, 1)
    else if c = 117 then (if l.length < 5 then none else (hexF 0 ((l.drop 1).take 4)).map fun u => (u, 5))
    else none
/-- A quoted text from behind its first quote: plain is what stands there since the last escape, acc the units so far, k how far. of: the units of a plain text. -/
def quotL (of : By → By) (q : UInt8) : Nat → By → By → By → Nat → Option (By × Nat)
  | 0, _, _, _, _ => none
  | _ + 1, [], _, _, _ => none
  | f + 1, c :: r, plain, acc, k =>
    if c = 10 then none
    else if c = q then some (acc ++ of plain, k + 1)
    else if c = 92 then match escL r with
      | none => none
      | some (u, n) => quotL of q f (r.drop n) [] (acc ++ of plain ++ [UInt8.ofNat (u / 256), UInt8.ofNat (u % 256)]) (k + 1 + n)
    else quotL of q f r (plain ++ [c]) acc (k + 1)
def nextL (of : By → By) (l : By) : Option Tk :=
  match l with
  | [] => none
  | c :: r =>
    if letB c then nameL l else if digB c then numL l
    else if c = 34 ∨ c = 39 then (quotL of c (r.length + 1) r [] [] 1).map fun p => ⟨4, p.1, 0, p.2⟩
    else signL l
/-- A whole text: its tokens with their places, or where it is at fault. -/
def scanL (of : By → By) : Nat → By → Nat → Except Nat (List (Tk × Nat))
  | 0, _, at_ => .error at_
  | f + 1, l, at_ =>
    if (skipL l.length l).2 = false then .error (at_ + (skipL l.length l).1)
    else if (l.drop (skipL l.length l).1) = [] then .ok [(⟨0, [], 0, 0⟩, at_ + (skipL l.length l).1)]
    else match nextL of (l.drop (skipL l.length l).1) with
      | none => .error (at_ + (skipL l.length l).1)
      | some t => match scanL of f (l.drop ((skipL l.length l).1 + t.len)) (at_ + (skipL l.length l).1 + t.len) with
        | .error e => .error e
        | .ok ts => .ok ((t, at_ + (skipL l.length l).1) :: ts)
theorem indexByte_lt : ∀ (l : By) (c : UInt8), Lib.indexByte l c < l.length ∨ (Lib.indexByte l c = -1 ∧ l = [])
  | [], _ => .inr ⟨rfl, rfl⟩
  | b :: l, c => by
    left
    unfold Lib.indexByte
    rcases indexByte_lt l c with h | ⟨h, h2⟩
    · rw [List.length_cons]
      split
      · omega
      · split
        · omega
        · omega
    · subst h2
      split
      · simp
      · simp [Lib.indexByte]
theorem index_lt : ∀ (l sub : By), sub ≠ [] → 0 ≤ Lib.index l sub → Lib.index l sub + sub.length ≤ l.length
  | [], sub, hs, h => by
    unfold Lib.index at h
    cases sub with
    | nil => exact absurd rfl hs
    | cons a t => simp at h
  | b :: l, sub, hs, h => by
    unfold Lib.index at h ⊢
    by_cases hp : sub.isPrefixOf (b :: l) = true
    · rw [if_pos hp] at h ⊢
      have := List.IsPrefix.length_le (List.isPrefixOf_iff_prefix.1 hp)
      omega
    · rw [if_neg hp] at h ⊢
      by_cases hq : (Lib.index l sub == -1) = true
      · rw [if_pos hq] at h
        omega
      · rw [if_neg hq] at h ⊢
        have hge := Lib.index_ge l sub
        have hne : Lib.index l sub ≠ -1 := fun e => hq (by rw [e]; rfl)
        have := index_lt l sub hs (by omega)
        rw [List.length_cons]
        omega
theorem skip_nil (f : Nat) : skipL f [] = (0, true) := by cases f <;> rfl
end Go.Proofs.YtfejompnjaifmaaDoor
