/- TextPlaces: just the digits of a place are one. -/
import Derived.Test.YtgkhlcejfiagfaaTe
namespace Go.Proofs.Ytgkhlcejfiagfaa
open Go.RowKit

/-- A number's digits as ASCII, the highest first. -/
def decN (n : Nat) : List Nat := if h : n < 10 then [48 + n] else decN (n / 10) ++ [48 + n % 10]
theorem decN_lt (n : Nat) (h : n < 10) : decN n = [48 + n] := by rw [decN, dif_pos h]
theorem decN_ge (n : Nat) (h : ¬ n < 10) : decN n = decN (n / 10) ++ [48 + n % 10] := by rw [decN, dif_neg h]
theorem decN_ascii (n : Nat) : ∀ u ∈ decN n, u < 58 := by
  induction n using Nat.strongRecOn with
  | _ n ih =>
    intro u hu
    by_cases h : n < 10
    · rw [decN_lt n h] at hu; simp at hu; omega
    · rw [decN_ge n h] at hu
      rcases List.mem_append.1 hu with hu | hu
      · exact ih (n / 10) (by omega) u hu
      · simp at hu; omega
theorem decN_ne (n : Nat) : decN n ≠ [] := by
  by_cases h : n < 10
  · rw [decN_lt n h]; simp
  · rw [decN_ge n h]; simp
theorem decN_length (n : Nat) (h : n < 100000) : (decN n).length ≤ 5 := by
  have h1 : ∀ n, n < 10 → (decN n).length ≤ 1 := fun n h => by rw [decN_lt n h]; simp
  have step : ∀ n k, (decN (n / 10)).length ≤ k → ¬ n < 10 → (decN n).length ≤ k + 1 := fun n k hk h => by rw [decN_ge n h]; simpa using hk
  have h2 : ∀ n, n < 100 → (decN n).length ≤ 2 := fun n h => by
    by_cases h' : n < 10
    · have := h1 n h'; omega
    · exact step n 1 (h1 _ (by omega)) h'
  have h3 : ∀ n, n < 1000 → (decN n).length ≤ 3 := fun n h => by
    by_cases h' : n < 10
    · have := h1 n h'; omega
    · exact step n 2 (h2 _ (by omega)) h'
  have h4 : ∀ n, n < 10000 → (decN n).length ≤ 4 := fun n h => by
    by_cases h' : n < 10
    · have := h1 n h'; omega
    · exact step n 3 (h3 _ (by omega)) h'
  by_cases h' : n < 10
  · have := h1 n h'; omega
  · exact step n 4 (h4 _ (by omega)) h'
theorem decN_head (n : Nat) (h : 1 ≤ n) : (decN n)[0]?.getD 0 ≠ 48 := by
  induction n using Nat.strongRecOn with
  | _ n ih =>
    by_cases h' : n < 10
    · rw [decN_lt n h']; simp; omega
    · rw [decN_ge n h', List.getElem?_append_left (by have := decN_ne (n / 10); exact List.length_pos_iff.2 this)]
      exact ih (n / 10) (by omega) (by omega)
theorem idxGo_cons (m : Int) (u : Nat) (r : List Nat) (h1 : 48 ≤ u) (h2 : u ≤ 57) (h3 : 10 * m + ((u : Int) - 48) < 10000) : idxGo m (u :: r) = idxGo (10 * m + ((u : Int) - 48)) r := by
  simp only [idxGo]
  rw [if_neg (by omega), if_neg (by omega)]
theorem idxGo_dec (n : Nat) (h : n < 10000) : ∀ r, idxGo 0 (decN n ++ r) = idxGo (n : Int) r := by
  induction n using Nat.strongRecOn with
  | _ n ih =>
    intro r
    by_cases h' : n < 10
    · rw [decN_lt n h', List.cons_append, List.nil_append, idxGo_cons _ _ _ (by omega) (by omega) (by omega)]
      congr 1; omega
    · rw [decN_ge n h', List.append_assoc, ih (n / 10) (by omega) (by omega), List.cons_append, List.nil_append, idxGo_cons _ _ _ (by omega) (by omega) (by omega)]
      congr 1; omega
theorem idxGo_bad (u : Nat) (hu : 57 < u) : ∀ (l : List Nat) (m : Int), idxGo m (l ++ [u]) = -1
  | [], m => by simp only [List.nil_append, idxGo]; rw [if_pos (Or.inr hu)]
  | a :: r, m => by
    simp only [List.cons_append, idxGo]
    split
    · rfl
    · split
      · rfl
      · exact idxGo_bad u hu r _
theorem idx_dec (n : Nat) (h : n < 10000) : idxU (decN n) = (n : Int) := by
  unfold idxU
  rw [if_neg]
  · have := idxGo_dec n h []
    rw [List.append_nil] at this
    rw [this]; rfl
  · rintro (h0 | ⟨h1, h2⟩)
    · exact decN_ne n (List.length_eq_zero_iff.1 h0)
    · by_cases hn : 1 ≤ n
      · exact decN_head n hn h2
      · obtain rfl : n = 0 := by omega
        rw [decN_lt 0 (by omega)] at h1; simp at h1
theorem idx_dec_big (n : Nat) (h : 10000 ≤ n) (h2 : n < 100000) : idxU (decN n) = -1 := by
  unfold idxU
  split
  · rfl
  · rw [decN_ge n (by omega), idxGo_dec (n / 10) (by omega)]
    simp only [idxGo]
    rw [if_neg (by omega), if_pos (by omega)]
theorem idx_zero (l : List Nat) (h : l ≠ []) : idxU (48 :: l) = -1 := by
  unfold idxU
  have : 0 < l.length := List.length_pos_iff.2 h
  rw [if_pos (Or.inr ⟨by simp; omega, by simp⟩)]
theorem idx_low (u : Nat) (l : List Nat) (hu : u < 48) : idxU (u :: l) = -1 := by
  unfold idxU
  split
  · rfl
  · simp only [idxGo]; rw [if_pos (Or.inl hu)]
theorem idx_x (u : Nat) (l : List Nat) (hu : 57 < u) : idxU (l ++ [u]) = -1 := by
  unfold idxU
  split
  · rfl
  · exact idxGo_bad u hu l 0

theorem bs_append (a b : List UInt8) : (⟨a.toArray⟩ ++ ⟨b.toArray⟩ : ByteArray) = ⟨(a ++ b).toArray⟩ := by
  apply ByteArray.ext; simp
/-- Bytes of ASCII numbers. -/
def bl (l : List Nat) : ByteArray := ⟨(l.map UInt8.ofNat).toArray⟩
theorem bl_append (a b : List Nat) : bl a ++ bl b = bl (a ++ b) := by unfold bl; rw [bs_append, List.map_append]
theorem bl_size (l : List Nat) : (bl l).size = l.length := by show (bl l).data.size = _; unfold bl; simp
theorem unitsS_bl (l : List Nat) (h : ∀ u ∈ l, u < 128) : unitsS ⟨(ofB (bl l)).toArray⟩ = l := by
  unfold bl
  rw [unitsS_ofB _ (fun b hb => by
    obtain ⟨u, hu, rfl⟩ := List.mem_map.1 hb
    have := h u hu
    simp; omega), List.map_map]
  conv => rhs; rw [← List.map_id l]
  apply List.map_congr_left
  intro u hu
  have := h u hu
  simp; omega
theorem ofB_size (l : List Nat) (h : ∀ u ∈ l, u < 128) : (⟨(ofB (bl l)).toArray⟩ : ByteArray).size = 2 * l.length := by
  show (ofB (bl l)).toArray.size = _
  unfold bl
  rw [ofB_ascii _ (fun b hb => by
    obtain ⟨u, hu, rfl⟩ := List.mem_map.1 hb
    have := h u hu
    simp; omega)]
  have hf : ∀ m : List UInt8, (m.flatMap (fun b => [0, b])).length = 2 * m.length := fun m => by
    induction m with
    | nil => rfl
    | cons b r ih => rw [List.flatMap_cons, List.length_append, ih]; simp; omega
  rw [List.size_toArray, hf, List.length_map]
/-- What Of and Index make of a text of ASCII bytes. -/
theorem of_index (l : List Nat) (n : Int) (h : ∀ u ∈ l, u < 128) (hl : l.length ≤ 7) (hi : idxU l = n) :
    (bl l).size ≤ 16777216 ∧ (⟨(ofB (bl l)).toArray⟩ : ByteArray).size ≤ 16777216 ∧ Hid (idxU (unitsS ⟨(ofB (bl l)).toArray⟩) = n) :=
  ⟨by rw [bl_size]; omega, by rw [ofB_size l h]; omega, by show _ = _; rw [unitsS_bl l h]; exact hi⟩

theorem tmod_bd (n m : Int) (h : 0 < m) : -m < n.tmod m ∧ n.tmod m < m := by
  rcases Int.le_total 0 n with hn | hn
  · rw [Int.tmod_eq_emod_of_nonneg hn]
    have := Int.emod_nonneg n (by omega : m ≠ 0)
    have := Int.emod_lt_of_pos n h
    omega
  · have e : n.tmod m = -((-n) % m) := by rw [← Int.tmod_eq_emod_of_nonneg (by omega : 0 ≤ -n), Int.neg_tmod, Int.neg_neg]
    have := Int.emod_nonneg (-n) (by omega : m ≠ 0)
    have := Int.emod_lt_of_pos (-n) h
    omega
theorem run_byte_string {P : Program} (src dst e : TypeId) (hs : P.underlying src = some (.slice e)) (he : P.underlying e = some (.int .u8)) (hd : P.underlying dst = some .string) (x : Nat) (hx : x < 256) (W : World) :
    (convert src dst (.slice (some ⟨W.heap.size, 0, none⟩) 1 1)).run P (W.alloc (.cells #[.int .u8 (x : Int)] e)) = .ok (.string (bl [x])) (W.alloc (.cells #[.int .u8 (x : Int)] e)) := by
  have h := run_convert_bytes_back (P := P) (W.alloc (.cells #[.int .u8 (x : Int)] e)) src dst e ⟨W.heap.size, 0, none⟩ 1 [UInt8.ofNat x] hs he hd (fun j hj => by
    have : j = 0 := by simpa using hj
    subst this
    simp [Addr.add]; omega)
  exact h
theorem digit_ (m : Nat) : (48 + m % 10 : Nat) < 256 := by omega
set_option maxRecDepth 1000000 in
set_option maxHeartbeats 2000000 in
theorem places_any (n : Int) (w : World) :
    Calls Try.prog 8 #[.int .i64 n] w fun e w' => e = .returned (.bool true) ∧ Below w.heap.size w w' := by
  have hb1 := tmod_bd n 12000 (by omega)
  have hE : (n.tmod 12000 + 12000).tmod 12000 = (n.tmod 12000 + 12000) % 12000 := Int.tmod_eq_emod_of_nonneg (by omega)
  obtain ⟨N, hN2⟩ : ∃ N : Nat, (N : Int) = (n.tmod 12000 + 12000) % 12000 := ⟨((n.tmod 12000 + 12000) % 12000).toNat, by omega⟩
  have hNlt : N < 12000 := by omega
  obtain ⟨g0, g1⟩ := hb1
  have hN3 := hE.trans hN2.symm
  have hN4 := hN2.symm
  clear hN2 hE
  have hasc : ∀ u ∈ decN N, u < 128 := fun u hu => by have := decN_ascii N u hu; omega
  have hlen := decN_length N (by omega)
  obtain ⟨want, hwant⟩ : ∃ want : Int, want = if (10000 : Int) ≤ (N : Int) then -1 else (N : Int) := ⟨_, rfl⟩
  have k0 := of_index (decN N) want hasc (by omega) (by
    rw [hwant]
    by_cases h : N < 10000
    · rw [idx_dec N h, if_neg (by omega)]
    · rw [idx_dec_big N (by omega) (by omega), if_pos (by omega)])
  have k1 := of_index (48 :: decN N) (-1) (fun u hu => by rcases List.mem_cons.1 hu with rfl | hu; · omega
                                                          · exact hasc u hu) (by simp; omega) (idx_zero _ (decN_ne N))
  have k2 := of_index (decN N ++ [120]) (-1) (fun u hu => by rcases List.mem_append.1 hu with hu | hu; · exact hasc u hu
                                                             · simp at hu; omega) (by simp; omega) (idx_x _ _ (by omega))
  have k3 := of_index (45 :: decN N) (-1) (fun u hu => by rcases List.mem_cons.1 hu with rfl | hu; · omega
                                                          · exact hasc u hu) (by simp; omega) (idx_low _ _ (by omega))
  have k4 := of_index (32 :: decN N) (-1) (fun u hu => by rcases List.mem_cons.1 hu with rfl | hu; · omega
                                                          · exact hasc u hu) (by simp; omega) (idx_low _ _ (by omega))
  obtain ⟨k0a, k0b, k0c⟩ := k0
  obtain ⟨k1a, k1b, k1c⟩ := k1
  obtain ⟨k2a, k2b, k2c⟩ := k2
  obtain ⟨k3a, k3b, k3c⟩ := k3
  obtain ⟨k4a, k4b, k4c⟩ := k4
  have j1 : ({ data := #[48] } : ByteArray) ++ bl (decN N) = bl (48 :: decN N) := bl_append [48] (decN N)
  have j2 : bl (decN N) ++ ({ data := #[120] } : ByteArray) = bl (decN N ++ [120]) := bl_append (decN N) [120]
  have j3 : ({ data := #[45] } : ByteArray) ++ bl (decN N) = bl (45 :: decN N) := bl_append [45] (decN N)
  have j4 : ({ data := #[32] } : ByteArray) ++ bl (decN N) = bl (32 :: decN N) := bl_append [32] (decN N)
  have HASC := Lib.hid hasc
  have HW := Lib.hid hwant
  have HLEN := Lib.hid hlen
  have z1 : ¬ 9223372036854775807 < ({ data := #[48] } : ByteArray).size + (bl (decN N)).size := by rw [bl_size]; show ¬ _ < 1 + _; omega
  have z2 : ¬ 9223372036854775807 < (bl (decN N)).size + ({ data := #[120] } : ByteArray).size := by rw [bl_size]; show ¬ _ < _ + 1; omega
  have z3 : ¬ 9223372036854775807 < ({ data := #[45] } : ByteArray).size + (bl (decN N)).size := by rw [bl_size]; show ¬ _ < 1 + _; omega
  have z4 : ¬ 9223372036854775807 < ({ data := #[32] } : ByteArray).size + (bl (decN N)).size := by rw [bl_size]; show ¬ _ < 1 + _; omega
  clear hasc hlen hwant
  go_enter Try.func8, Try.ntmps8
  go_wp2_with (first | (go_at_call 9; ((with_reducible refine (fit_any _).mono ?_); rintro e w1 ⟨rfl, hb1⟩)))
  go_loopw [3, 4] (fun d m wr => ∃ (l : List Nat) (k : Nat), k < 12000 ∧ d = .string (bl l) ∧ m = .int .i64 (k : Int) ∧ Hid (decN k ++ l = decN N) ∧ Below w.heap.size w wr) (fun _ m _ => (intOf m).toNat)
  case atStart => exact ⟨[], N, hNlt, rfl, rfl, by show _ = _; simp, hb1⟩
  case round =>
    obtain ⟨l, k, hk, rfl, rfl, HS, hbw⟩ := hrel
    have hcv := run_byte_string (P := Try.prog) 46 9 5 Try.underlying46 Try.underlying5 Try.underlying9 (48 + k % 10) (digit_ k) wr
    rw [show ((48 + k % 10 : Nat) : Int) = 48 + (k : Int) % 10 by omega] at hcv
    have hap : bl [48 + k % 10] ++ bl l = bl ((48 + k % 10) :: l) := bl_append [_] l
    have zl : ¬ 9223372036854775807 < (bl [48 + k % 10]).size + (bl l).size := by
      rw [bl_size, bl_size]
      have h1 := HS.out
      have h2 := HLEN.out
      rw [← h1, List.length_append] at h2
      simp; omega
    by_cases h10 : k < 10
    · have hz : ((k : Int) / 10 == 0) = true := by simpa using (by omega : (k : Int) / 10 = 0)
      have HD : Hid ((48 + k % 10) :: l = decN N) := by show _ = _; rw [← HS.out, decN_lt k h10, show k % 10 = k by omega]; rfl
      have hap2 : bl [48 + k % 10] ++ bl l = bl (decN N) := by rw [hap, HD.out]
      clear hap
      by_cases hbig : (10000 : Int) ≤ (N : Int)
      · have K0 : Hid (idxU (unitsS ⟨(ofB (bl (decN N))).toArray⟩) = -1) := by show _ = _; rw [k0c.out, HW.out, if_pos hbig]
        clear k0c
        go_wp2_with (first | (go_at_call 18; ((with_reducible refine (of_any _ (by assumption) _).mono ?_); rintro e wx ⟨rfl, hbx⟩)) | (go_at_call 23; ((with_reducible refine (index_at _ _ (by assumption) (by assumption) _).mono ?_); rintro e wy ⟨rfl, hby⟩)))
        go_ret
        exact ⟨rfl, by repeat (first | (with_reducible assumption) | (refine blw2 ?_ (by with_reducible assumption)) | (exact hbw.alloc hbw.size _))⟩
      · have K0 : Hid (idxU (unitsS ⟨(ofB (bl (decN N))).toArray⟩) = (N : Int)) := by show _ = _; rw [k0c.out, HW.out, if_neg hbig]
        clear k0c
        go_wp2_with (first | (go_at_call 18; ((with_reducible refine (of_any _ (by assumption) _).mono ?_); rintro e wx ⟨rfl, hbx⟩)) | (go_at_call 23; ((with_reducible refine (index_at _ _ (by assumption) (by assumption) _).mono ?_); rintro e wy ⟨rfl, hby⟩)))
        go_ret
        exact ⟨rfl, by repeat (first | (with_reducible assumption) | (refine blw2 ?_ (by with_reducible assumption)) | (exact hbw.alloc hbw.size _))⟩
    · have hz : ((k : Int) / 10 == 0) = false := by simpa using (by omega : ¬ (k : Int) / 10 = 0)
      have HD : Hid (decN (k / 10) ++ (48 + k % 10) :: l = decN N) := by show _ = _; rw [← HS.out, decN_ge k h10]; simp
      go_wp2
      go_roundw
      case rel => exact ⟨(48 + k % 10) :: l, k / 10, by omega, rfl, by go_num, HD, hbw.alloc hbw.size _⟩
      case measure => simp [intOf]; omega
end Go.Proofs.Ytgkhlcejfiagfaa
