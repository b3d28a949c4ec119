/- Index of package text: a string's units read as an array's place. -/
import Derived.Test.YtgdkjkfbknbgkaaGreatDoorWc
namespace Go.Proofs.YtgdkjkfbknbgkaaGreatDoor.W
open Go.RowKit

def idxGo : Int → List Nat → Int
  | n, [] => n
  | n, u :: r => if u < 48 ∨ 57 < u then -1 else if 10000 ≤ 10 * n + ((u : Int) - 48) then -1 else idxGo (10 * n + ((u : Int) - 48)) r
def idxU (l : List Nat) : Int := if l.length = 0 ∨ (1 < l.length ∧ l[0]?.getD 0 = 48) then -1 else idxGo 0 l

theorem unitsS_lt (s : ByteArray) (i : Nat) : (unitsS s)[i]?.getD 0 < 65536 := by
  by_cases hi : i < (unitsS s).length
  · rw [List.getElem?_eq_getElem hi]
    exact units_lt s.data.toList _ (List.getElem_mem hi)
  · rw [List.getElem?_eq_none (by omega)]; simp
theorem idxGo_step (n : Int) (us : List Nat) (k : Nat) (h : k < us.length) : idxGo n (us.drop k) = if us[k]?.getD 0 < 48 ∨ 57 < us[k]?.getD 0 then -1 else if 10000 ≤ 10 * n + ((us[k]?.getD 0 : Nat) : Int) - 48 then -1 else idxGo (10 * n + (((us[k]?.getD 0 : Nat) : Int) - 48)) (us.drop (k + 1)) := by
  rw [List.drop_eq_getElem_cons h, List.getElem?_eq_getElem h]
  simp only [idxGo, Option.getD_some]
  rw [show 10 * n + ((us[k] : Int) - 48) = 10 * n + (us[k] : Int) - 48 by omega]

set_option maxRecDepth 1000000 in
set_option maxHeartbeats 2000000 in
theorem index_any (s : ByteArray) (hs : s.size ≤ 16777216) (w : World) :
    Calls Tryz.prog 86 #[.string s] w fun e w' => e = .returned (.int .i64 (idxU (unitsS s))) ∧ ∃ n, w' = w.drewN n := by
  have HL := Lib.hid (unitsS_length s)
  by_cases h0 : s.size / 2 = 0
  · have h1 : (s.size : Int) / 2 = 0 := by omega
    have hb : ((s.size : Int) / 2 == 0) = true := by simpa using h1
    have HI : Hid (idxU (unitsS s) = -1) := by
      show idxU _ = _
      unfold idxU; rw [if_pos (Or.inl (by rw [HL.out]; exact h0))]
    clear h1
    go_enter Tryz.func86, Tryz.ntmps86
    go_wp2_with (first | (go_at_call 77; ((with_reducible refine (len_any _ hs _).mono ?_); rintro e w' ⟨rfl, rfl⟩)))
    go_ret
    exact ⟨ret_int HI.out.symm, 0, rfl⟩
  have hz : ((s.size : Int) / 2 == 0) = false := by have : ¬ (s.size : Int) / 2 = 0 := by omega
                                                    simpa using this
  obtain ⟨L, hLd⟩ : ∃ L, L = s.size / 2 := ⟨_, rfl⟩
  obtain ⟨us, hud⟩ : ∃ us, us = unitsS s := ⟨_, rfl⟩
  have hlen := HL.out
  rw [← hud, ← hLd] at hlen
  have hcast : (s.size : Int) / 2 = (L : Int) := by omega
  have hat : ∀ (i : Nat), i < L → ∀ W : World, Calls Tryz.prog 79 #[.string s, .int .i64 (i : Int)] W fun e w' => e = .returned (.int .u16 ((us[i]?.getD 0 : Nat) : Int)) ∧ ∃ n, w' = W.drewN n := fun i hi W => by
    rw [hud]; exact at_in s hs i (by omega) W
  have hln : ∀ W : World, Calls Tryz.prog 77 #[.string s] W fun e w' => e = .returned (.int .i64 (L : Int)) ∧ W = w' := fun W => by
    rw [← hcast]; exact len_any s hs W
  have hult : ∀ i, us[i]?.getD 0 < 65536 := fun i => by rw [hud]; exact unitsS_lt s i
  rw [← hud]
  have hL0 : 0 < L := by omega
  have hLs : L ≤ 8388608 := by omega
  rw [hcast] at hz
  have HLEN := Lib.hid hlen
  clear hud HL hcast hLd h0 hlen
  by_cases hB : 1 < L ∧ us[0]?.getD 0 = 48
  · have HI : Hid (idxU us = -1) := by
      show idxU _ = _
      unfold idxU; rw [if_pos (Or.inr (by rw [HLEN.out]; exact hB))]
    have hB1 : (1 : Int) < (L : Int) := by omega
    have hB2 : (((us[0]?.getD 0 : Nat) : Int) == 48) = true := by have := hB.2; simpa using (by omega : ((us[0]?.getD 0 : Nat) : Int) = 48)
    have hat0 := hat 0 hL0
    rw [show ((0 : Nat) : Int) = 0 from rfl] at hat0
    clear hB
    obtain ⟨u0, hu0⟩ : ∃ u0 : Int, u0 = ((us[0]?.getD 0 : Nat) : Int) := ⟨_, rfl⟩
    rw [← hu0] at hat0 hB2
    clear hu0
    go_enter Tryz.func86, Tryz.ntmps86
    go_wp2_with (first | (go_at_call 77; ((with_reducible refine (hln _).mono ?_); rintro e w' ⟨rfl, rfl⟩)) | (go_at_call 79; ((with_reducible refine (hat0 _).mono ?_); rintro e w' ⟨rfl, n, rfl⟩)))
    go_ret
    exact ⟨ret_int HI.out.symm, _, rfl⟩
  have HI : Hid (idxU us = idxGo 0 us) := by
    show idxU _ = _
    unfold idxU; rw [if_neg (by rw [HLEN.out]; intro h; rcases h with h | h <;> first | exact hB h | omega)]
  have key : (L : Int) ≤ 1 ∨ ((1 : Int) < (L : Int) ∧ (((us[0]?.getD 0 : Nat) : Int) == 48) = false) := by
    by_cases h1 : 1 < L
    · exact Or.inr ⟨by omega, by have : ¬ us[0]?.getD 0 = 48 := fun h => hB ⟨h1, h⟩
                                 simpa using (by omega : ¬ ((us[0]?.getD 0 : Nat) : Int) = 48)⟩
    · exact Or.inl (by omega)
  clear hB
  have hat0 := hat 0 hL0
  rw [show ((0 : Nat) : Int) = 0 from rfl] at hat0
  obtain ⟨u0, hu0⟩ : ∃ u0 : Int, u0 = ((us[0]?.getD 0 : Nat) : Int) := ⟨_, rfl⟩
  rw [← hu0] at hat0 key
  clear hu0
  rcases key with hB1 | ⟨hB1, hB2⟩
  all_goals
    go_enter Tryz.func86, Tryz.ntmps86
    go_wp2_with (first | (go_at_call 77; ((with_reducible refine (hln _).mono ?_); rintro e w' ⟨rfl, rfl⟩)) | (go_at_call 79; ((with_reducible refine (hat0 _).mono ?_); rintro e w' ⟨rfl, n, rfl⟩)))
    clear hat0 hB1
    go_loopw [3, 21] (fun n i wr => ∃ (k : Nat) (m : Int), k ≤ L ∧ i = .int .i64 (k : Int) ∧ n = .int .i64 m ∧ 0 ≤ m ∧ m < 10000 ∧ Hid (idxGo m (us.drop k) = idxGo 0 us) ∧ ∃ q, wr = w.drewN q) (fun _ i _ => L - (intOf i).toNat)
    case atStart => exact ⟨0, 0, by omega, rfl, rfl, by omega, by omega, rfl, by first | exact ⟨0, rfl⟩ | exact ⟨_, rfl⟩⟩
    case round =>
      obtain ⟨k, m, hk, rfl, rfl, hm0, hm1, HS, q, rfl⟩ := hrel
      obtain ⟨wo, hwo⟩ : ∃ wo : World, wo = w.drewN q := ⟨_, rfl⟩
      rw [← hwo]
      have HWO : Hid (∃ q, wo = w.drewN q) := ⟨q, hwo⟩
      clear hwo
      by_cases hlt : k < L
      · have hlti : (k : Int) < (L : Int) := by omega
        have hatk := hat k hlt
        have hst := idxGo_step m us k (by rw [HLEN.out]; exact hlt)
        have hub := hult k
        obtain ⟨u, hud⟩ : ∃ u : Nat, u = us[k]?.getD 0 := ⟨_, rfl⟩
        rw [← hud] at hatk hst hub
        clear hud hat hult
        by_cases hu1 : u < 48
        · have HI2 : Hid (idxU us = -1) := by show idxU us = -1; rw [HI.out, ← HS.out, hst, if_pos (Or.inl hu1)]
          have hu1i : (u : Int) < 48 := by omega
          clear hst
          go_wp2_with (first | (go_at_call 79; ((with_reducible refine (hatk _).mono ?_); rintro e w' ⟨rfl, n, rfl⟩)))
          go_ret
          obtain ⟨q, rfl⟩ := HWO.out
          exact ⟨ret_int HI2.out.symm, _, World.drewN_drewN _ _ _⟩
        by_cases hu2 : 57 < u
        · have HI2 : Hid (idxU us = -1) := by show idxU us = -1; rw [HI.out, ← HS.out, hst, if_pos (Or.inr hu2)]
          have hu1i : ¬ (u : Int) < 48 := by omega
          have hu2i : (57 : Int) < (u : Int) := by omega
          clear hst
          go_wp2_with (first | (go_at_call 79; ((with_reducible refine (hatk _).mono ?_); rintro e w' ⟨rfl, n, rfl⟩)))
          go_ret
          obtain ⟨q, rfl⟩ := HWO.out
          exact ⟨ret_int HI2.out.symm, _, World.drewN_drewN _ _ _⟩
        have hu1i : (48 : Int) ≤ (u : Int) := by omega
        have hu2i : (u : Int) ≤ 57 := by omega
        by_cases hu3 : 10000 ≤ 10 * m + (u : Int) - 48
        · have HI2 : Hid (idxU us = -1) := by show idxU us = -1; rw [HI.out, ← HS.out, hst, if_neg (by omega), if_pos hu3]
          have hu3i : (10000 : Int) ≤ 10 * m + ((u : Int) - 48) := by omega
          clear hst hu3
          go_wp2_with (first | (go_at_call 79; ((with_reducible refine (hatk _).mono ?_); rintro e w' ⟨rfl, n, rfl⟩)))
          go_ret
          obtain ⟨q, rfl⟩ := HWO.out
          exact ⟨ret_int HI2.out.symm, _, World.drewN_drewN _ _ _⟩
        · have HS2 : Hid (idxGo (10 * m + ((u : Int) - 48)) (us.drop (k + 1)) = idxGo 0 us) := by show _ = _; rw [← HS.out, hst, if_neg (by omega), if_neg hu3]
          have hu3i : 10 * m + ((u : Int) - 48) < (10000 : Int) := by omega
          clear hst hu3 HS
          go_wp2_with (first | (go_at_call 79; ((with_reducible refine (hatk _).mono ?_); rintro e w' ⟨rfl, n, rfl⟩)))
          go_roundw
          case rel =>
            obtain ⟨q, rfl⟩ := HWO.out
            exact ⟨k + 1, _, by omega, by go_num, rfl, by omega, by omega, HS2, _, World.drewN_drewN _ _ _⟩
          case measure => simp [intOf]; omega
      · have hge : ¬ (k : Int) < (L : Int) := by omega
        have HI2 : Hid (m = idxU us) := by
          show m = idxU us
          rw [HI.out, ← HS.out, List.drop_of_length_le (by rw [HLEN.out]; omega)]; rfl
        clear hat hult
        go_wp2
        go_ret
        obtain ⟨q, rfl⟩ := HWO.out
        exact ⟨ret_int HI2.out, _, rfl⟩
end Go.Proofs.YtgdkjkfbknbgkaaGreatDoor.W
