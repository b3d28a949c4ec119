/- LexStrings, as mathematics: a text of quoted pieces is scanned to its units. -/
import Derived.Test.YtfejompnjaifmaaDoorLl
namespace Go.Proofs.YtfejompnjaifmaaDoor
open Go

theorem ofFrom_plain (s : ByteArray) (hs : ∀ c ∈ s.data.toList, c.toNat < 128) : ∀ (f p : Nat), s.size ≤ p + f → ofFrom s f p = (s.data.toList.drop p).flatMap fun c => [0, c]
  | 0, p, h => by
    rw [List.drop_eq_nil_of_le (by rw [Array.length_toList]; exact h)]
    rfl
  | f + 1, p, h => by
    by_cases hp : p < s.size
    · have hlen : p < s.data.toList.length := by rw [Array.length_toList]; exact hp
      have hc := hs s.data.toList[p] (List.getElem_mem hlen)
      have hd := decode_ascii s p hp hc
      rw [ofFrom_step s f p hp, hd, ofFrom_plain s hs f (p + 1) (by omega), List.drop_eq_getElem_cons hlen, List.flatMap_cons]
      congr 1
      show ofR (s.data.toList[p]).toNat = _
      unfold ofR u2
      rw [if_pos (by omega), show (s.data.toList[p]).toNat / 256 = 0 by omega, UInt8.ofNat_toNat]
      rfl
    · rw [ofFrom_end s (f + 1) p hp, List.drop_eq_nil_of_le (by rw [Array.length_toList]; exact Nat.le_of_not_lt hp)]
      rfl
theorem ofL_plain (l : By) (h : ∀ c ∈ l, c.toNat < 128) : ofL l = l.flatMap fun c => [0, c] := by
  unfold ofL ofB
  rw [ofFrom_plain _ h _ 0 (by omega), List.drop_zero]
/-- The digits of an escape. -/
def hx (d : Nat) : UInt8 := hexDigs.getD d 0
theorem hexV_hx : ∀ d, d < 16 → hexV (hx d) = some d := by decide
theorem hex_four (u : Nat) (hu : u < 65536) : hexF 0 [hx (u / 4096), hx (u / 256 % 16), hx (u / 16 % 16), hx (u % 16)] = some u := by
  simp only [hexF]
  rw [hexV_hx _ (by omega)]
  simp only
  rw [hexV_hx _ (by omega)]
  simp only
  rw [hexV_hx _ (by omega)]
  simp only
  rw [hexV_hx _ (by omega)]
  simp only
  congr 1
  omega
/-- How a unit is written in quotes. -/
def pcL (single : Bool) (u : Nat) : By :=
  if u = 10 ∧ single = false then [92, 110] else if u = 39 ∨ u = 34 ∨ u = 92 then [92, UInt8.ofNat u] else if 32 ≤ u ∧ u < 127 then [UInt8.ofNat u]
  else [92, 117, hx (u / 4096), hx (u / 256 % 16), hx (u / 16 % 16), hx (u % 16)]
def unB (u : Nat) : By := [UInt8.ofNat (u / 256), UInt8.ofNat (u % 256)]
theorem quot_esc (of : By → By) (q : UInt8) (hq : q = 34 ∨ q = 39) (f : Nat) (r plain acc : By) (k : Nat) (u n : Nat) (he : escL r = some (u, n)) :
    quotL of q (f + 1) (92 :: r) plain acc k = quotL of q f (r.drop n) [] (acc ++ of plain ++ [UInt8.ofNat (u / 256), UInt8.ofNat (u % 256)]) (k + 1 + n) := by
  conv => lhs; unfold quotL
  rw [if_neg (by decide), if_neg (by rcases hq with rfl | rfl <;> decide), if_pos rfl, he]
theorem quot_pcs (single : Bool) (q : UInt8) (hq : q = 34 ∨ q = 39) : ∀ (l : List Nat), (∀ u ∈ l, u < 65536) → ∀ (f : Nat) (plain acc : By) (k : Nat), (l.flatMap (pcL single)).length + 1 ≤ f → (∀ c ∈ plain, c.toNat < 128) →
    quotL ofL q f (l.flatMap (pcL single) ++ [q]) plain acc k = some (acc ++ ofL plain ++ l.flatMap unB, k + (l.flatMap (pcL single)).length + 1)
  | [], _, f, plain, acc, k, hf, _ => by
    obtain ⟨f, rfl⟩ : ∃ g, f = g + 1 := ⟨f - 1, by simp at hf; omega⟩
    show quotL ofL q (f + 1) [q] plain acc k = _
    unfold quotL
    rw [if_neg (by rcases hq with rfl | rfl <;> decide), if_pos rfl]
    simp
  | u :: l, hl, f, plain, acc, k, hf, hp => by
    have hu : u < 65536 := hl u (by simp)
    have hl' : ∀ v ∈ l, v < 65536 := fun v hv => hl v (by simp [hv])
    have h0 : ofL [] = [] := by rw [ofL_plain [] (by simp)]; rfl
    rw [List.flatMap_cons, List.length_append] at hf
    obtain ⟨f, rfl⟩ : ∃ g, f = g + 1 := ⟨f - 1, by omega⟩
    have esc : ∀ (r : By) (n : Nat), pcL single u = 92 :: r → n = r.length → escL (r ++ (l.flatMap (pcL single) ++ [q])) = some (u, n) → quotL ofL q (f + 1) ((u :: l).flatMap (pcL single) ++ [q]) plain acc k = some (acc ++ ofL plain ++ (u :: l).flatMap unB, k + ((u :: l).flatMap (pcL single)).length + 1) := by
      intro r n hpc hn he
      rw [List.flatMap_cons, List.append_assoc, hpc, List.cons_append, quot_esc ofL q hq f _ plain acc k u n he, hn, List.drop_left, quot_pcs single q hq l hl' f [] _ _ (by rw [hpc, List.length_cons] at hf; omega) (by simp), h0]
      simp only [List.append_nil, List.flatMap_cons, unB, List.append_assoc, List.length_append, List.length_cons]
      congr 2
      omega
    by_cases h10 : u = 10 ∧ single = false
    · have hpc : pcL single u = [92, 110] := by unfold pcL; rw [if_pos h10]
      exact esc [110] 1 hpc rfl (by rw [h10.1]; rfl)
    · by_cases h3 : u = 39 ∨ u = 34 ∨ u = 92
      · have hpc : pcL single u = [92, UInt8.ofNat u] := by unfold pcL; rw [if_neg h10, if_pos h3]
        exact esc [UInt8.ofNat u] 1 hpc rfl (by rcases h3 with rfl | rfl | rfl <;> rfl)
      · by_cases h4 : 32 ≤ u ∧ u < 127
        · have hpc : pcL single u = [UInt8.ofNat u] := by unfold pcL; rw [if_neg h10, if_neg h3, if_pos h4]
          have hn : (UInt8.ofNat u).toNat = u := UInt8.toNat_ofNat_of_lt' (by show u < 256; omega)
          rw [List.flatMap_cons, hpc]
          show quotL ofL q (f + 1) (UInt8.ofNat u :: (l.flatMap (pcL single) ++ [q])) plain acc k = _
          conv => lhs; unfold quotL
          rw [if_neg (by intro e; rw [e] at hn; have : (10 : UInt8).toNat = 10 := rfl; omega),
            if_neg (by intro e; rw [e] at hn; rcases hq with rfl | rfl; (have : (34 : UInt8).toNat = 34 := rfl; omega); (have : (39 : UInt8).toNat = 39 := rfl; omega)),
            if_neg (by intro e; rw [e] at hn; have : (92 : UInt8).toNat = 92 := rfl; omega)]
          have hp2 : ∀ c ∈ plain ++ [UInt8.ofNat u], c.toNat < 128 := by
            intro c hc
            rcases List.mem_append.1 hc with hc | hc
            · exact hp c hc
            · rw [List.mem_singleton.1 hc, hn]
              omega
          rw [quot_pcs single q hq l hl' f _ _ _ (by rw [hpc, List.length_cons, List.length_nil] at hf; omega) hp2, ofL_plain _ hp2, ofL_plain _ hp, List.flatMap_append]
          have hun : unB u = [0, UInt8.ofNat u] := by
            unfold unB
            rw [show u / 256 = 0 by omega, show u % 256 = u by omega]
            rfl
          simp only [List.flatMap_cons, List.flatMap_nil, List.append_nil, List.append_assoc, hun, List.length_append, List.length_cons, List.length_nil]
          congr 2
          omega
        · have hpc : pcL single u = [92, 117, hx (u / 4096), hx (u / 256 % 16), hx (u / 16 % 16), hx (u % 16)] := by unfold pcL; rw [if_neg h10, if_neg h3, if_neg h4]
          refine esc [117, hx (u / 4096), hx (u / 256 % 16), hx (u / 16 % 16), hx (u % 16)] 5 hpc rfl ?_
          simp only [List.cons_append, List.nil_append, escL]
          rw [if_neg (by decide), if_neg (by decide), if_neg (by decide), if_neg (by decide), if_pos trivial, if_neg (by simp only [List.length_cons]; omega)]
          show (hexF 0 [hx (u / 4096), hx (u / 256 % 16), hx (u / 16 % 16), hx (u % 16)]).map _ = _
          rw [hex_four u hu]
          rfl
end Go.Proofs.YtfejompnjaifmaaDoor
