/- The laws' common start, and Of at short texts. -/
import Derived.Test.YtbkgophgclpijaaTd
namespace Go.Proofs.Ytbkgophgclpijaa
open Go.RowKit

theorem of_const (s : ByteArray) (r : List UInt8) (hs : s.size ≤ 16777216) (h : Hid (ofB s = r)) (w : World) :
    Calls Try.prog 14 #[.string s] w fun e w' => e = .returned (.string ⟨r.toArray⟩) ∧ Below w.heap.size w w' :=
  (of_any s hs w).mono fun _ _ he => by rw [h.out] at he; exact he
theorem index_at (s : ByteArray) (n : Int) (hs : s.size ≤ 16777216) (h : Hid (idxU (unitsS s) = n)) (w : World) :
    Calls Try.prog 15 #[.string s] w fun e w' => e = .returned (.int .i64 n) ∧ Below w.heap.size w w' :=
  (index_any s hs w).mono fun _ _ ⟨he, k, hw⟩ => by rw [h.out] at he; exact ⟨he, hw ▸ below_drewN (Below.refl _ _) k⟩
theorem blw_call {B : Nat} {w w1 w2 : World} (h : Below B w w1) (h2 : Below w1.heap.size w1 w2) (hB : B ≤ w.heap.size) : Below B w w2 := h.trans (h2.mono (by have := h.size; omega))

theorem blw2 {w w1 w2 : World} (h : Below w.heap.size w w1) (h2 : Below w1.heap.size w1 w2) : Below w.heap.size w w2 := h.trans (h2.mono h.size)
theorem fit_any (w : World) : Calls Try.prog 5 #[] w fun e w' => e = .returned (.bool true) ∧ Below w.heap.size w w' := by
  have c1 : Hid (ofB ⟨#[97]⟩ = [0, 97]) := by show _ = _; decide +kernel
  have c2 : Hid (ofB ⟨#[48, 55]⟩ = [0, 48, 0, 55]) := by show _ = _; decide +kernel
  have c3 : Hid (ofB ⟨#[97, 98, 99]⟩ = [0, 97, 0, 98, 0, 99]) := by show _ = _; decide +kernel
  have c4 : Hid (idxU (unitsS ⟨#[0, 48, 0, 55]⟩) = -1) := by show _ = _; decide +kernel
  go_enter Try.func5, Try.ntmps5
  go_wp2_with (first | (go_at_call 14; first | ((with_reducible refine (of_const _ _ (by decide) c1 _).mono ?_); rintro e w1 ⟨rfl, hb1⟩) | ((with_reducible refine (of_const _ _ (by decide) c2 _).mono ?_); rintro e w2 ⟨rfl, hb2⟩) | ((with_reducible refine (of_const _ _ (by decide) c3 _).mono ?_); rintro e w4 ⟨rfl, hb4⟩)) | (go_at_call 15; ((with_reducible refine (index_at _ _ (by decide) c4 _).mono ?_); rintro e w3 ⟨rfl, hb3⟩)) | (go_at_call 16; ((with_reducible refine (len_any _ (by decide) _).mono ?_); rintro e w' ⟨rfl, rfl⟩)))
  go_ret
  exact ⟨rfl, blw2 (blw2 (blw2 hb1 hb2) hb3) hb4⟩

/-- A text of ASCII bytes: each is a unit. -/
theorem ofFrom_ascii (s : ByteArray) : ∀ (f p : Nat), s.size ≤ p + f → (∀ i (h : i < s.size), s[i].toNat < 128) → ofFrom s f p = (s.data.toList.drop p).flatMap (fun b => [0, b])
  | 0, p, hf, _ => by
    rw [List.drop_of_length_le (by simpa using hf)]; rfl
  | f + 1, p, hf, ha => by
    by_cases hp : p < s.size
    · rw [ofFrom_step s f p hp, decode_ascii s p hp (ha p hp), ofFrom_ascii s f (p + 1) (by omega) ha]
      have hl : p < s.data.toList.length := by simpa using hp
      rw [List.drop_eq_getElem_cons hl, List.flatMap_cons]
      have e : ofR s[p].toNat = [0, s[p]] := by
        have h1 := ha p hp
        unfold ofR u2
        rw [if_pos (by omega)]
        have h2 : s[p].toNat / 256 = 0 := by omega
        rw [h2]; simp
      rw [e]; rfl
    · rw [ofFrom_end s _ p hp, List.drop_of_length_le (by simp; omega)]; rfl
theorem ofB_ascii (l : List UInt8) (ha : ∀ b ∈ l, b.toNat < 128) : ofB ⟨l.toArray⟩ = l.flatMap (fun b => [0, b]) := by
  unfold ofB
  rw [ofFrom_ascii _ _ _ (by omega) (fun i h => ha _ (by simp [ByteArray.getElem_eq_getElem_data]))]
  simp
theorem units_ascii : ∀ (l : List UInt8), units (l.flatMap (fun b => [0, b])) = l.map (fun b => b.toNat)
  | [] => rfl
  | b :: r => by
    have := units_ascii r
    simp only [List.flatMap_cons, List.map_cons]
    show units (0 :: b :: r.flatMap (fun b => [0, b])) = _
    simp [units, this]
theorem unitsS_ofB (l : List UInt8) (ha : ∀ b ∈ l, b.toNat < 128) : unitsS ⟨(ofB ⟨l.toArray⟩).toArray⟩ = l.map (fun b => b.toNat) := by
  unfold unitsS; rw [ofB_ascii l ha]; simpa using units_ascii l
end Go.Proofs.Ytbkgophgclpijaa
