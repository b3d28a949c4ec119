/- The reference's Index over units. -/
import Derived.Test.YtgkhlcejfiagfaaPc
namespace Go.Proofs.Ytgkhlcejfiagfaa
open Go.RowKit

theorem idxGo_long : ∀ (l : List Nat) (m : Int), 0 ≤ m → 0 < l.length → 10000 ≤ m * (10 : Int) ^ l.length → idxGo m l = -1
  | [], _, _, h, _ => absurd h (by simp)
  | u :: r, m, h0, _, hm => by
    simp only [idxGo]
    split
    · rfl
    · split
      · rfl
      · rename_i h1 h2
        rw [List.length_cons, Int.pow_succ] at hm
        have hp : (0 : Int) < (10 : Int) ^ r.length := Int.pow_pos (by omega)
        have hge : 10 * m ≤ 10 * m + ((u : Int) - 48) := by omega
        have hmul := Int.mul_le_mul_of_nonneg_right hge (Int.le_of_lt hp)
        have e : m * ((10 : Int) ^ r.length * 10) = 10 * m * (10 : Int) ^ r.length := by rw [Int.mul_comm ((10 : Int) ^ r.length) 10, ← Int.mul_assoc, Int.mul_comm m 10]
        rw [e] at hm
        by_cases hr : r.length = 0
        · rw [hr] at hm; simp at hm; omega
        · exact idxGo_long r _ (by omega) (by omega) (by omega)
theorem idxU_long (l : List Nat) (h : 4 < l.length) : idxU l = -1 := by
  unfold idxU
  split
  · rfl
  · rename_i h0
    match l, h, h0 with
    | u :: r, h, h0 =>
      simp only [idxGo]
      split
      · rfl
      · split
        · rfl
        · rename_i h1 h2
          have hr : 4 ≤ r.length := by simp at h; omega
          have hu : u ≠ 48 := fun e => h0 (Or.inr ⟨by omega, by simp [e]⟩)
          have hp : (10 : Int) ^ 4 ≤ (10 : Int) ^ r.length := by
            have := Nat.pow_le_pow_right (n := 10) (by omega) hr
            exact_mod_cast this
          have hge : (1 : Int) ≤ 10 * 0 + ((u : Int) - 48) := by omega
          have hmul := Int.mul_le_mul_of_nonneg_right hge (show (0 : Int) ≤ (10 : Int) ^ r.length by omega)
          exact idxGo_long r _ (by omega) (by omega) (by omega)

set_option maxRecDepth 1000000 in
set_option maxHeartbeats 2000000 in
theorem refIndex_any (a : Option Addr) (n ca : Nat) (l : List Nat) (hn : n ≤ 1000000) (hl : ∀ u ∈ l, u < 65536) (w : World) (h1 : Nums .i64 w a n l) :
    Calls Try.prog 24 #[.slice a n ca] w fun e w' => e = .returned (.int .i64 (idxU l)) ∧ Below w.heap.size w w' := by
  have H1 := Veil.mk h1
  have HL := Veil.mk hl
  clear h1 hl
  have hll := H1.out.1
  by_cases h0 : n = 0
  · subst h0
    have HE : Veil (idxU l = -1) := ⟨by unfold idxU; rw [if_pos (Or.inl hll)]⟩
    clear hll
    go_enter Try.func24, Try.ntmps24
    go_wp2
    go_ret
    exact ⟨ret_int HE.out.symm, Below.refl _ _⟩
  have p0 : ¬ (n : Int) = 0 := by omega
  by_cases h4 : 4 < n
  · have HE : Veil (idxU l = -1) := ⟨idxU_long l (by omega)⟩
    have p4 : (4 : Int) < (n : Int) := by omega
    clear hll
    go_enter Try.func24, Try.ntmps24
    go_wp2
    go_ret
    exact ⟨ret_int HE.out.symm, Below.refl _ _⟩
  have p4 : ¬ (4 : Int) < (n : Int) := by omega
  obtain ⟨b, o, rfl, hbl, hc⟩ := H1.out.2 (by omega)
  have c0 : w.cell? ⟨b, o, none⟩ = some (.int .i64 ((l[0]?.getD 0 : Nat) : Int)) := hc 0 (by omega)
  have HC := Veil.mk hc
  obtain ⟨x, hx⟩ : ∃ x, x = l[0]?.getD 0 := ⟨_, rfl⟩
  rw [← hx] at c0
  clear hc
  by_cases hz : 1 < n ∧ x = 48
  · obtain ⟨z1, z2⟩ := hz
    subst z2
    have p1 : (1 : Int) < (n : Int) := by omega
    have HE : Veil (idxU l = -1) := ⟨by unfold idxU; rw [if_pos (Or.inr ⟨by omega, hx.symm⟩)]⟩
    clear hll hx
    go_enter Try.func24, Try.ntmps24
    go_wp2
    go_ret
    exact ⟨ret_int HE.out.symm, Below.refl _ _⟩
  have HI : Veil (idxU l = idxGo 0 l) := ⟨by
    unfold idxU; rw [if_neg]
    rintro (q | ⟨q1, q2⟩)
    · omega
    · exact hz ⟨by omega, by omega⟩⟩
  have d0 : ((n : Int) == 0) = false := by simp; omega
  have hcase : ((1 : Int) < (n : Int) ∧ ¬ (x : Int) = 48 ∧ ((x : Int) == 48) = false) ∨ ¬ (1 : Int) < (n : Int) := by
    by_cases h : 1 < n
    · exact Or.inl ⟨by omega, by omega, by simp; omega⟩
    · exact Or.inr (by omega)
  clear hll hx hz
  rcases hcase with ⟨p1, p2, d1⟩ | p1
  all_goals
    go_enter Try.func24, Try.ntmps24
    go_wp2
    go_loopw [3, 4] (fun v i wr => ∃ (k m : Nat), k ≤ n ∧ i = .int .i64 (k : Int) ∧ v = .int .i64 (m : Int) ∧ m < 10 ^ k ∧ Veil (idxU l = idxGo m (l.drop k)) ∧ Below w.heap.size w wr) (fun _ i _ => n - (intOf i).toNat)
    case atStart => exact ⟨0, 0, by omega, rfl, rfl, by decide, HI, Below.refl _ _⟩
    case round =>
      obtain ⟨k, m, hk, rfl, rfl, hm, hI, hbw⟩ := hrel
      have hll := H1.out.1
      by_cases hq : k < n
      · have q1 : (k : Int) < (n : Int) := by omega
        have q0 : (0 : Int) ≤ (k : Int) := by omega
        have c1 : wr.cell? ⟨b, o + k, none⟩ = some (.int .i64 ((l[k]?.getD 0 : Nat) : Int)) := by rw [hbw.cell (p := ⟨b, o + k, none⟩) hbl]; exact HC.out k hq
        have hu : l[k]?.getD 0 < 65536 := by rw [List.getElem?_eq_getElem (by omega)]; exact HL.out _ (List.getElem_mem _)
        have hst := idxGo_step (m : Int) l k (by omega)
        rw [← hI.out] at hst
        have hpw : 10 ^ (k + 1) = 10 ^ k * 10 := Nat.pow_succ ..
        have hpm : 10 ^ (k + 1) ≤ 10 ^ 4 := Nat.pow_le_pow_right (by omega) (by omega)
        obtain ⟨u, hud⟩ : ∃ u, u = l[k]?.getD 0 := ⟨_, rfl⟩
        rw [← hud] at c1 hu hst
        clear hud hI hll
        by_cases u1 : u < 48
        · have r1 : (u : Int) < 48 := by omega
          have HE : Veil (idxU l = -1) := ⟨by rw [hst, if_pos (Or.inl u1)]⟩
          clear hst hpw hpm
          go_wp2
          go_ret
          exact ⟨ret_int HE.out.symm, hbw⟩
        · have r1 : ¬ (u : Int) < 48 := by omega
          by_cases u2 : 57 < u
          · have r2 : (57 : Int) < (u : Int) := by omega
            have HE : Veil (idxU l = -1) := ⟨by rw [hst, if_pos (Or.inr u2)]⟩
            clear hst hpw hpm
            go_wp2
            go_ret
            exact ⟨ret_int HE.out.symm, hbw⟩
          · have r2 : ¬ (57 : Int) < (u : Int) := by omega
            have hm2 : m * 10 + u - 48 < 10 ^ (k + 1) := by omega
            have hm3 : m * 10 + u - 48 < 10000 := by omega
            have em : 10 * (m : Int) + ((u : Int) - 48) = ((m * 10 + u - 48 : Nat) : Int) := by omega
            rw [if_neg (by omega), if_neg (by omega), em] at hst
            have HE : Veil (idxU l = idxGo ((m * 10 + u - 48 : Nat) : Int) (l.drop (k + 1))) := ⟨hst⟩
            have w1 : IntKind.i64.wrap ((m : Int) * 10) = (m : Int) * 10 := by rw [IntKind.wrap_i64]; omega
            have w2 : IntKind.i64.wrap ((m : Int) * 10 + (u : Int)) = (m : Int) * 10 + (u : Int) := by rw [IntKind.wrap_i64]; omega
            have w3 : IntKind.i64.wrap ((m : Int) * 10 + (u : Int) - 48) = ((m * 10 + u - 48 : Nat) : Int) := by rw [IntKind.wrap_i64]; omega
            have HM := Veil.mk hm2
            clear hst hpw hpm hm2 hm3 em hm
            go_wp2
            go_roundw
            case rel => exact ⟨k + 1, m * 10 + u - 48, by omega, by go_num, by first | rfl | rw [w3] | (simp [w1, w2, w3]), HM.out, HE, hbw⟩
            case measure => simp [intOf]; omega
      · have q1 : ¬ (k : Int) < (n : Int) := by omega
        have HE : Veil (idxU l = (m : Int)) := ⟨by rw [hI.out, List.drop_eq_nil_of_le (by omega)]; rfl⟩
        clear hI hll
        go_wp2
        go_ret
        exact ⟨ret_int HE.out.symm, hbw⟩
end Go.Proofs.Ytgkhlcejfiagfaa
