/- LexStrings: the whole text is scanned to one token and the end. -/
import Derived.Test.YtfejompnjaifmaaDoorLp
import Derived.Test.YtfejompnjaifmaaDoorLm
namespace Go.Proofs.YtfejompnjaifmaaDoor
open Go

def pcsL (single : Bool) (l : List Nat) : By := l.flatMap (pcL single)
def unsL (l : List Nat) : By := l.flatMap unB
theorem pcL_len (single : Bool) (u : Nat) : (pcL single u).length ≤ 6 := by
  unfold pcL
  split
  · decide
  · split
    · show 2 ≤ 6; omega
    · split
      · show 1 ≤ 6; omega
      · exact Nat.le_refl _
theorem pcsL_len (single : Bool) : ∀ l : List Nat, (pcsL single l).length ≤ 6 * l.length
  | [] => Nat.le_refl _
  | u :: l => by
    have h1 := pcL_len single u
    have h2 := pcsL_len single l
    unfold pcsL at h2 ⊢
    rw [List.flatMap_cons, List.length_append, List.length_cons]
    omega
theorem pcsL_snoc (single : Bool) (l : List Nat) (u : Nat) : pcsL single (l ++ [u]) = pcsL single l ++ pcL single u := by
  unfold pcsL
  rw [List.flatMap_append]
  simp
theorem skip_quote (q : UInt8) (hq : q = 34 ∨ q = 39) (r : By) : ∀ f, skipL f (q :: r) = (0, true)
  | 0 => rfl
  | f + 1 => by rcases hq with rfl | rfl <;> rfl
theorem strings_scan (single : Bool) (q : UInt8) (hq : q = 34 ∨ q = 39) (l : List Nat) (hl : ∀ u ∈ l, u < 65536) (hn : l.length ≤ 500) :
    scanS (q :: (pcsL single l ++ [q])) = .ok [(⟨4, unsL l, 0, (pcsL single l).length + 2⟩, 0), (⟨0, [], 0, 0⟩, (pcsL single l).length + 2)] := by
  have hlen := pcsL_len single l
  have hL : (q :: (pcsL single l ++ [q])).length = (pcsL single l).length + 2 := by simp
  have h0 : ofL [] = [] := by rw [ofL_plain [] (by simp)]; rfl
  have hqp := quot_pcs single q hq l hl ((pcsL single l ++ [q]).length + 1) [] [] 1 (by rw [List.length_append]; show _ ≤ (pcsL single l).length + 1 + 1; exact Nat.le_succ _) (by simp)
  have hnx : nextL ofL (q :: (pcsL single l ++ [q])) = some ⟨4, unsL l, 0, (pcsL single l).length + 2⟩ := by
    unfold nextL
    simp only
    rw [if_neg (by rcases hq with rfl | rfl <;> decide), if_neg (by rcases hq with rfl | rfl <;> decide), if_pos hq]
    show Option.map _ (quotL ofL q ((pcsL single l ++ [q]).length + 1) (l.flatMap (pcL single) ++ [q]) [] [] 1) = _
    rw [hqp, h0]
    show some (Tk.mk 4 ([] ++ [] ++ unsL l) 0 (1 + (pcsL single l).length + 1)) = _
    rw [show 1 + (pcsL single l).length + 1 = (pcsL single l).length + 2 by omega]
    rfl
  have hs := skip_quote q hq (pcsL single l ++ [q])
  unfold scanS
  rw [if_neg (by rw [hL]; omega), hL, scan_next (ts := []) (by rw [hs]) (by rw [hs]; exact nofun) (by rw [hs]; exact hnx), hs]
  simp only [Nat.zero_add]
  have hd : (q :: (pcsL single l ++ [q])).drop ((pcsL single l).length + 2) = [] := List.drop_eq_nil_of_le (by rw [hL]; exact Nat.le_refl _)
  rw [hd, show (pcsL single l).length + 2 = ((pcsL single l).length + 1) + 1 from rfl, scan_end (by rfl) (by rfl)]
  rfl
end Go.Proofs.YtfejompnjaifmaaDoor
