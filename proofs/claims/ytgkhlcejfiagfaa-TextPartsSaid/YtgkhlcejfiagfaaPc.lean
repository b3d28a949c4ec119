/- The reference's Compare and Index over units. -/
import Derived.Test.YtgkhlcejfiagfaaPb
namespace Go.Proofs.Ytgkhlcejfiagfaa
open Go.RowKit

/-- -1, 0, 1 over numbers. -/
def cmpU : List Nat → List Nat → Int
  | [], [] => 0
  | [], _ :: _ => -1
  | _ :: _, [] => 1
  | x :: r, y :: t => if x < y then -1 else if y < x then 1 else cmpU r t
theorem drop_cons {l : List Nat} {k : Nat} (h : k < l.length) : l.drop k = l[k]?.getD 0 :: l.drop (k + 1) := by
  rw [List.drop_eq_getElem_cons h, List.getElem?_eq_getElem h]; rfl
theorem cmp_step {l m : List Nat} {k : Nat} (h1 : k < l.length) (h2 : k < m.length) : cmpU (l.drop k) (m.drop k) = if l[k]?.getD 0 < m[k]?.getD 0 then -1 else if m[k]?.getD 0 < l[k]?.getD 0 then 1 else cmpU (l.drop (k + 1)) (m.drop (k + 1)) := by
  rw [drop_cons h1, drop_cons h2]; rfl
theorem cmp_end {l m : List Nat} {k : Nat} (h1 : k ≤ l.length) (h2 : k ≤ m.length) (h : k = l.length ∨ k = m.length) : cmpU (l.drop k) (m.drop k) = if l.length < m.length then -1 else if m.length < l.length then 1 else 0 := by
  by_cases hl : k < l.length
  · have hm : k = m.length := by omega
    rw [drop_cons hl, List.drop_eq_nil_of_le (by omega : m.length ≤ k), if_neg (by omega), if_pos (by omega)]; rfl
  · by_cases hm : k < m.length
    · rw [drop_cons hm, List.drop_eq_nil_of_le (by omega : l.length ≤ k), if_pos (by omega)]; rfl
    · rw [List.drop_eq_nil_of_le (by omega : m.length ≤ k), List.drop_eq_nil_of_le (by omega : l.length ≤ k), if_neg (by omega), if_neg (by omega)]; rfl

set_option maxRecDepth 1000000 in
set_option maxHeartbeats 2000000 in
theorem refCompare_any (a b : Option Addr) (n m ca cb : Nat) (l r : List Nat) (hn : n ≤ 1000000) (hm : m ≤ 1000000) (hl : ∀ u ∈ l, u < 65536) (hr : ∀ u ∈ r, u < 65536) (w : World) (h1 : Nums .i64 w a n l) (h2 : Nums .i64 w b m r) :
    Calls Try.prog 21 #[.slice a n ca, .slice b m cb] w fun e w' => e = .returned (.int .i64 (cmpU l r)) ∧ Below w.heap.size w w' := by
  have H1 := Veil.mk h1
  have H2 := Veil.mk h2
  have HL := Veil.mk hl
  have HR := Veil.mk hr
  clear h1 h2 hl hr
  go_enter Try.func21, Try.ntmps21
  go_wp2
  go_loopw [5] (fun i wr => ∃ k : Nat, k ≤ n ∧ k ≤ m ∧ i = .int .i64 (k : Int) ∧ Veil (cmpU (l.drop k) (r.drop k) = cmpU l r) ∧ Below w.heap.size w wr) (fun i _ => n - (intOf i).toNat)
  case atStart => exact ⟨0, by omega, by omega, rfl, ⟨by simp⟩, Below.refl _ _⟩
  case round =>
    obtain ⟨k, hk, hkm, rfl, hcmp, hbw⟩ := hrel
    by_cases hp : k < n
    · have p1 : (k : Int) < (n : Int) := by omega
      have p0 : (0 : Int) ≤ (k : Int) := by omega
      by_cases hq : k < m
      · have p2 : (k : Int) < (m : Int) := by omega
        obtain ⟨b1, o1, rfl, hbl1, hc1⟩ := H1.out.2 (by omega)
        obtain ⟨b2, o2, rfl, hbl2, hc2⟩ := H2.out.2 (by omega)
        have hl1 := H1.out.1
        have hl2 := H2.out.1
        have c1 : wr.cell? ⟨b1, o1 + k, none⟩ = some (.int .i64 ((l[k]?.getD 0 : Nat) : Int)) := by rw [hbw.cell (p := ⟨b1, o1 + k, none⟩) hbl1]; exact hc1 k hp
        have c2 : wr.cell? ⟨b2, o2 + k, none⟩ = some (.int .i64 ((r[k]?.getD 0 : Nat) : Int)) := by rw [hbw.cell (p := ⟨b2, o2 + k, none⟩) hbl2]; exact hc2 k hq
        have hst := cmp_step (l := l) (m := r) (k := k) (by omega) (by omega)
        rw [hcmp.out] at hst
        have HST := Veil.mk hst
        obtain ⟨x, hx⟩ : ∃ x, x = l[k]?.getD 0 := ⟨_, rfl⟩
        obtain ⟨y, hy⟩ : ∃ y, y = r[k]?.getD 0 := ⟨_, rfl⟩
        rw [← hx] at c1 HST
        rw [← hy] at c2 HST
        clear hst hx hy hc1 hc2 hcmp
        by_cases hxy : x < y
        · have r1 : (x : Int) < (y : Int) := by omega
          have HE : Veil (cmpU l r = -1) := ⟨by rw [HST.out, if_pos hxy]⟩
          clear HST
          go_wp2
          go_quiet (fail)
          go_wp2
          go_ret
          exact ⟨ret_int HE.out.symm, below_drewN hbw _⟩
        · have r1 : ¬ (x : Int) < (y : Int) := by omega
          by_cases hyx : y < x
          · have r2 : (y : Int) < (x : Int) := by omega
            have HE : Veil (cmpU l r = 1) := ⟨by rw [HST.out, if_neg hxy, if_pos hyx]⟩
            clear HST
            go_wp2
            go_quiet (fail)
            go_wp2
            go_quiet (fail)
            go_wp2
            go_ret
            exact ⟨ret_int HE.out.symm, below_drewN (below_drewN hbw _) _⟩
          · have r2 : ¬ (y : Int) < (x : Int) := by omega
            have HE : Veil (cmpU (l.drop (k + 1)) (r.drop (k + 1)) = cmpU l r) := ⟨by rw [HST.out, if_neg hxy, if_neg hyx]⟩
            clear HST
            go_wp2
            go_quiet (fail)
            go_wp2
            go_quiet (fail)
            go_wp2
            go_roundw
            case rel => exact ⟨k + 1, by omega, by omega, by go_num, HE, below_drewN hbw _⟩
            case measure => simp [intOf]; omega
      · have p2 : ¬ (k : Int) < (m : Int) := by omega
        have hl1 := H1.out.1
        have hl2 := H2.out.1
        have hst := cmp_end (l := l) (m := r) (k := k) (by omega) (by omega) (by omega)
        rw [hcmp.out, if_neg (by omega), if_pos (by omega)] at hst
        have HE := Veil.mk hst
        have s1 : ¬ (n : Int) < (m : Int) := by omega
        have s2 : (m : Int) < (n : Int) := by omega
        clear hst hcmp hl1 hl2
        go_wp2
        go_ret
        exact ⟨ret_int HE.out.symm, hbw⟩
    · have p1 : ¬ (k : Int) < (n : Int) := by omega
      have hl1 := H1.out.1
      have hl2 := H2.out.1
      have hst := cmp_end (l := l) (m := r) (k := k) (by omega) (by omega) (by omega)
      rw [hcmp.out] at hst
      by_cases ht : n < m
      · rw [if_pos (by omega)] at hst
        have HE := Veil.mk hst
        have s1 : (n : Int) < (m : Int) := by omega
        clear hst hcmp hl1 hl2
        go_wp2
        go_ret
        exact ⟨ret_int HE.out.symm, hbw⟩
      · rw [if_neg (by omega), if_neg (by omega)] at hst
        have HE := Veil.mk hst
        have s1 : ¬ (n : Int) < (m : Int) := by omega
        have s2 : ¬ (m : Int) < (n : Int) := by omega
        clear hst hcmp hl1 hl2
        go_wp2
        go_ret
        exact ⟨ret_int HE.out.symm, hbw⟩
end Go.Proofs.Ytgkhlcejfiagfaa
