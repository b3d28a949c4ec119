/- Package lex: hexUnit and escape. -/
import Derived.Test.YtfejompnjaifmaaDoorLe
import Derived.Test.YtfejompnjaifmaaDoorLf
import Derived.Test.YtfejompnjaifmaaDoorShelf
import Derived.Lib.ConvBytes
import Derived.Lib.SmallJoins
import Derived.Laws.BitsLemmas
namespace Go.Proofs.YtfejompnjaifmaaDoor
open Go Go.RowKit

/-- A unit and its length in the source, as they are handed back. -/
def escV : Option (Nat × Nat) → Value
  | some u => .tuple #[.int .u16 (u.1 : Int), .int .i64 (u.2 : Int)]
  | none => .tuple #[.int .u16 0, .int .i64 0]
theorem hex_join (u d : Nat) (hd : d < 16) : bits .or .u16 (IntKind.u16.wrap ((u : Int) * 16)) (d : Int) = (((u * 16 + d) % 65536 : Nat) : Int) := by
  simp only [IntKind.wrap_u16]
  rw [bits_join .u16 16 (by decide) (fun n h0 h1 => by rw [IntKind.wrap_u16]; omega) 4 _ _ (by omega) (by omega) (by omega) (by omega) (by omega) (by omega)]
  omega
theorem hexV_lt {c : UInt8} {d : Nat} (h : hexV c = some d) : d < 16 := by
  unfold hexV at h
  have := indexByte_lt hexDigs c
  have hl : hexDigs.length = 22 := rfl
  rw [hl] at this
  split at h
  · cases h
  · injection h with h
    split at h <;> omega
def hexTab : ByteArray := ⟨#[48, 49, 50, 51, 52, 53, 54, 55, 56, 57, 97, 98, 99, 100, 101, 102, 65, 66, 67, 68, 69, 70]⟩
set_option maxHeartbeats 4000000 in
set_option maxRecDepth 100000 in
theorem hex_any (s : ByteArray) (hs : s.size ≤ 20000) (w : World) :
    Calls Tryd.prog 39 #[.string s] w (BelPost w (escV (if s.data.toList.length < 5 then none else (hexF 0 ((s.data.toList.drop 1).take 4)).map fun u => (u, 5)))) := by
  obtain ⟨v, hv⟩ : ∃ v, escV (if s.data.toList.length < 5 then none else (hexF 0 ((s.data.toList.drop 1).take 4)).map fun u => (u, 5)) = v := ⟨_, rfl⟩
  rw [hv]
  have HLN : s.data.toList.length = s.size := Array.length_toList
  rw [HLN] at hv
  clear HLN
  by_cases h5 : s.size < 5
  · rw [if_pos h5] at hv
    have HVV := Veil.mk hv.symm
    have h5' : (s.size : Int) < 5 := by omega
    clear hv h5
    go_enter Tryd.func39, Tryd.ntmps39
    go_wp2
    rw [HVV.out]
    exact bodyPost_ret (v := .tuple #[.int .u16 0, .int .i64 0]) (by simp [results, Tryd.results39, go_sem]) rfl ⟨rfl, Below.refl _ _⟩
  · rw [if_neg h5] at hv
    have h5' : ¬ (s.size : Int) < 5 := by omega
    have h5s : (5 : Int) ≤ (s.size : Int) := by omega
    obtain ⟨x, hx⟩ : ∃ x, x = s.extract 1 5 := ⟨_, rfl⟩
    have hx2 := hx.symm
    have hxl : x.data.toList = (s.data.toList.drop 1).take 4 := by rw [hx, Lib.extract_data]
    have hxs : x.size = 4 := by rw [hx, ByteArray.size_extract]; omega
    rw [← hxl] at hv
    have HV := Veil.mk hv
    have HXL : Veil (x.data.toList.length = 4) := ⟨by rw [Array.length_toList]; exact hxs⟩
    have hcv := Lib.run_convert_string_bytes (P := Tryd.prog) w 9 37 5 x (u := .string) Tryd.underlying9 Tryd.underlying37 Tryd.underlying5
    obtain ⟨cap, hcap⟩ : ∃ cap, grownCap w x.size 0 5 = cap := ⟨_, rfl⟩
    rw [hcap, hxs] at hcv
    obtain ⟨W1, hW1⟩ : ∃ W1, Lib.bytesWorld w 5 x = W1 := ⟨_, rfl⟩
    have HB := Veil.mk (show Below w.heap.size w W1 by rw [← hW1]; exact Joins.below_bytesWorld _ _ _ _ (Nat.le_refl _))
    have HC : Veil (∀ j, j < 4 → W1.cell? ⟨w.heap.size, j, none⟩ = some (.int .u8 (x.data.toList.getD j 0).toNat)) := ⟨fun j hj => by rw [← hW1]; exact Lib.bytesWorld_cell w 5 x j (by omega)⟩
    rw [hW1] at hcv
    obtain ⟨g, hg⟩ : ∃ g, w.heap.size = g := ⟨_, rfl⟩
    rw [hg] at hcv HC
    clear hv hxl hxs hx hW1 hcap h5
    go_enter Tryd.func39, Tryd.ntmps39
    go_wp2
    go_loop [4, 15] (fun u i => ∃ j un : Nat, j ≤ 4 ∧ i = .int .i64 (j : Int) ∧ u = .int .u16 (un : Int) ∧ Veil (hexF 0 x.data.toList = hexF un (x.data.toList.drop j))) (fun _ i => 4 - (intOf i).toNat)
    case atStart => exact ⟨0, 0, by omega, rfl, rfl, ⟨rfl⟩⟩
    case round =>
      obtain ⟨j, un, hj, rfl, rfl, hR⟩ := hrel
      by_cases hj4 : j < 4
      · have hj4' : (j : Int) < 4 := by omega
        have hj0 : (0 : Int) ≤ (j : Int) := by omega
        obtain ⟨c, hc⟩ : ∃ c, c = x.data.toList[j]'(by rw [HXL.out]; exact hj4) := ⟨_, rfl⟩
        have hcell : W1.cell? ⟨g, j, none⟩ = some (.int .u8 (c.toNat : Int)) := by
          rw [HC.out j hj4, hc, List.getD_eq_getElem?_getD, List.getElem?_eq_getElem (by rw [HXL.out]; exact hj4)]
          rfl
        have hdr : x.data.toList.drop j = c :: x.data.toList.drop (j + 1) := by rw [List.drop_eq_getElem_cons (by rw [HXL.out]; exact hj4), hc]
        have HR : Veil (hexF 0 x.data.toList = match hexV c with | none => none | some d => hexF ((un * 16 + d) % 65536) (x.data.toList.drop (j + 1))) := ⟨by rw [hR.out, hdr]; rfl⟩
        have HIB : Veil (∀ w, Calls Tryd.prog 13 #[.string hexTab, .int .u8 (c.toNat : Int)] w fun e w' => e = .returned (.int .i64 (Lib.indexByte hexDigs c)) ∧ w = w') := ⟨fun w => (Tryd.strings_IndexByte hexTab (c.toNat : Int) w).mono (by
          rintro e w' ⟨h1, h2⟩
          refine ⟨?_, h2.symm⟩
          rw [h1]
          simp [hexTab, hexDigs])⟩
        obtain ⟨i, hi⟩ : ∃ i, Lib.indexByte hexDigs c = i := ⟨_, rfl⟩
        have hilt := indexByte_lt hexDigs c
        rw [hi] at HIB hilt
        have hl22 : hexDigs.length = 22 := rfl
        rw [hl22] at hilt
        clear hc hdr hR hl22
        cases hq : hexV c with
        | none =>
          have hi0 : i < 0 := by
            unfold hexV at hq
            rw [hi] at hq
            split at hq
            · assumption
            · cases hq
          have HVV : Veil (v = escV none) := ⟨by rw [← HV.out, HR.out, hq]; rfl⟩
          clear hq hi hilt
          unfold hexTab at HIB
          go_wp2_with (first | (go_at_call 13; ((with_reducible refine (HIB.out _).mono ?_); rintro e9 w9 ⟨rfl, rfl⟩)))
          rw [HVV.out]
          exact bodyPost_ret (v := .tuple #[.int .u16 0, .int .i64 0]) (by simp [results, Tryd.results39, go_sem]) rfl ⟨rfl, HB.out⟩
        | some d =>
          have hd16 := hexV_lt hq
          have hN : Veil (hexF 0 x.data.toList = hexF ((un * 16 + d) % 65536) (x.data.toList.drop (j + 1))) := ⟨by rw [HR.out, hq]⟩
          have hid : ¬ i < 0 ∧ (if 15 < i then (i - 6).toNat else i.toNat) = d := by
            unfold hexV at hq
            rw [hi] at hq
            split at hq
            · cases hq
            · injection hq with hq
              exact ⟨by assumption, hq⟩
          obtain ⟨hi0, hid⟩ := hid
          have HJ := Veil.mk (hex_join un d hd16)
          unfold hexTab at HIB
          by_cases h15 : 15 < i
          · rw [if_pos h15] at hid
            have hsub : i - 6 = (d : Int) := by omega
            clear hq hi hilt hid HR
            go_wp2_with (first | (go_at_call 13; ((with_reducible refine (HIB.out _).mono ?_); rintro e9 w9 ⟨rfl, rfl⟩)))
            go_round
            case rel => exact ⟨j + 1, (un * 16 + d) % 65536, by omega, by go_num, by rw [← HJ.out], hN⟩
            case measure => simp [intOf]; omega
          · rw [if_neg h15] at hid
            have hieq : i = (d : Int) := by omega
            subst hieq
            clear hq hi hilt hid HR
            go_wp2_with (first | (go_at_call 13; ((with_reducible refine (HIB.out _).mono ?_); rintro e9 w9 ⟨rfl, rfl⟩)))
            go_round
            case rel => exact ⟨j + 1, (un * 16 + d) % 65536, by omega, by go_num, by rw [← HJ.out], hN⟩
            case measure => simp [intOf]; omega
      · have hj4' : ¬ (j : Int) < 4 := by omega
        have HVV : Veil (v = escV (some (un, 5))) := ⟨by rw [← HV.out, hR.out, List.drop_eq_nil_of_le (by rw [HXL.out]; omega)]; rfl⟩
        go_wp2
        rw [HVV.out]
        exact bodyPost_ret (v := .tuple #[.int .u16 (un : Int), .int .i64 5]) (by simp [results, Tryd.results39, go_sem]) rfl ⟨rfl, HB.out⟩
theorem escV_parts (o : Option (Nat × Nat)) : ∃ u n : Int, escV o = .tuple #[.int .u16 u, .int .i64 n] := by
  cases o with
  | none => exact ⟨_, _, rfl⟩
  | some t => exact ⟨_, _, rfl⟩
theorem cne {c k : UInt8} {n : Nat} (h : ¬ c.toNat = n) (hk : k.toNat = n) : ¬ c = k := fun e => h (by rw [e, hk])
set_option maxHeartbeats 4000000 in
set_option maxRecDepth 100000 in
theorem escape_any (s : ByteArray) (hs : s.size ≤ 20000) (w : World) :
    Calls Tryd.prog 29 #[.string s] w (BelPost w (escV (escL s.data.toList))) := by
  obtain ⟨v, hv⟩ : ∃ v, escV (escL s.data.toList) = v := ⟨_, rfl⟩
  rw [hv]
  have HV := Veil.mk hv
  by_cases h0 : s.size = 0
  · have hs0 : s = ⟨#[]⟩ := by_inj (by have : s.data.toList.length = 0 := by rw [Array.length_toList]; exact h0
                                       rw [List.length_eq_zero_iff.1 this])
    subst hs0
    have HVV : Veil (v = escV none) := ⟨by rw [← HV.out]; rfl⟩
    clear hv
    go_enter Tryd.func29, Tryd.ntmps29
    go_wp2
    rw [HVV.out]
    exact bodyPost_ret (v := .tuple #[.int .u16 0, .int .i64 0]) (by simp [results, Tryd.results29, go_sem]) rfl ⟨rfl, Below.refl _ _⟩
  · have hse : s.toList.isEmpty = false := by
      rw [ByteArray.toList_eq, List.isEmpty_eq_false_iff]
      intro h
      have h2 : s.data.toList.length = 0 := by rw [h]; rfl
      rw [Array.length_toList] at h2
      exact h0 h2
    have hs1 : 0 < s.size := by omega
    have hs1' : (0 : Int) < (s.size : Int) := by omega
    obtain ⟨c, hc⟩ : ∃ c, c = s[0] := ⟨_, rfl⟩
    have hc2 := hc.symm
    have hw16 : IntKind.u16.wrap (c.toNat : Int) = (c.toNat : Int) := by rw [IntKind.wrap_u16]; have := c.toNat_lt; omega
    have HDR : Veil (s.data.toList = c :: s.data.toList.drop 1) := ⟨by rw [hc]; exact get0 s hs1⟩
    clear hv hc h0
    go_enter Tryd.func29, Tryd.ntmps29
    go_upto_region 4 with (fail)
    by_cases hk : c.toNat = 110
    · have b110 : ((c.toNat : Int) == 110) = true := beq_iff_eq.2 (by omega)
      have b116 : ((c.toNat : Int) == 116) = false := beq_eq_false_iff_ne.2 (by omega)
      have b48 : ((c.toNat : Int) == 48) = false := beq_eq_false_iff_ne.2 (by omega)
      have b92 : ((c.toNat : Int) == 92) = false := beq_eq_false_iff_ne.2 (by omega)
      have b39 : ((c.toNat : Int) == 39) = false := beq_eq_false_iff_ne.2 (by omega)
      have b34 : ((c.toNat : Int) == 34) = false := beq_eq_false_iff_ne.2 (by omega)
      have b117 : ((c.toNat : Int) == 117) = false := beq_eq_false_iff_ne.2 (by omega)
      have HVV : Veil (v = escV (some (10, 1))) := ⟨by rw [← HV.out, HDR.out, show c = 110 from UInt8.toNat_inj.1 hk]; rfl⟩
      clear hk
      go_wp2
      rw [HVV.out]
      exact bodyPost_ret (v := .tuple #[.int .u16 10, .int .i64 1]) (by simp [results, Tryd.results29, go_sem]) rfl ⟨rfl, Below.refl _ _⟩
    · have hk110 : ¬ c.toNat = 110 := hk
      clear hk
      by_cases hk : c.toNat = 116
      · have b110 : ((c.toNat : Int) == 110) = false := beq_eq_false_iff_ne.2 (by omega)
        have b116 : ((c.toNat : Int) == 116) = true := beq_iff_eq.2 (by omega)
        have b48 : ((c.toNat : Int) == 48) = false := beq_eq_false_iff_ne.2 (by omega)
        have b92 : ((c.toNat : Int) == 92) = false := beq_eq_false_iff_ne.2 (by omega)
        have b39 : ((c.toNat : Int) == 39) = false := beq_eq_false_iff_ne.2 (by omega)
        have b34 : ((c.toNat : Int) == 34) = false := beq_eq_false_iff_ne.2 (by omega)
        have b117 : ((c.toNat : Int) == 117) = false := beq_eq_false_iff_ne.2 (by omega)
        have HVV : Veil (v = escV (some (9, 1))) := ⟨by rw [← HV.out, HDR.out, show c = 116 from UInt8.toNat_inj.1 hk]; rfl⟩
        clear hk
        go_wp2
        rw [HVV.out]
        exact bodyPost_ret (v := .tuple #[.int .u16 9, .int .i64 1]) (by simp [results, Tryd.results29, go_sem]) rfl ⟨rfl, Below.refl _ _⟩
      · have hk116 : ¬ c.toNat = 116 := hk
        clear hk
        by_cases hk : c.toNat = 48
        · have b110 : ((c.toNat : Int) == 110) = false := beq_eq_false_iff_ne.2 (by omega)
          have b116 : ((c.toNat : Int) == 116) = false := beq_eq_false_iff_ne.2 (by omega)
          have b48 : ((c.toNat : Int) == 48) = true := beq_iff_eq.2 (by omega)
          have b92 : ((c.toNat : Int) == 92) = false := beq_eq_false_iff_ne.2 (by omega)
          have b39 : ((c.toNat : Int) == 39) = false := beq_eq_false_iff_ne.2 (by omega)
          have b34 : ((c.toNat : Int) == 34) = false := beq_eq_false_iff_ne.2 (by omega)
          have b117 : ((c.toNat : Int) == 117) = false := beq_eq_false_iff_ne.2 (by omega)
          have HVV : Veil (v = escV (some (0, 1))) := ⟨by rw [← HV.out, HDR.out, show c = 48 from UInt8.toNat_inj.1 hk]; rfl⟩
          clear hk
          go_wp2
          rw [HVV.out]
          exact bodyPost_ret (v := .tuple #[.int .u16 0, .int .i64 1]) (by simp [results, Tryd.results29, go_sem]) rfl ⟨rfl, Below.refl _ _⟩
        · have hk48 : ¬ c.toNat = 48 := hk
          clear hk
          by_cases hk : c.toNat = 92
          · have b110 : ((c.toNat : Int) == 110) = false := beq_eq_false_iff_ne.2 (by omega)
            have b116 : ((c.toNat : Int) == 116) = false := beq_eq_false_iff_ne.2 (by omega)
            have b48 : ((c.toNat : Int) == 48) = false := beq_eq_false_iff_ne.2 (by omega)
            have b92 : ((c.toNat : Int) == 92) = true := beq_iff_eq.2 (by omega)
            have b39 : ((c.toNat : Int) == 39) = false := beq_eq_false_iff_ne.2 (by omega)
            have b34 : ((c.toNat : Int) == 34) = false := beq_eq_false_iff_ne.2 (by omega)
            have b117 : ((c.toNat : Int) == 117) = false := beq_eq_false_iff_ne.2 (by omega)
            have HVV : Veil (v = escV (some (c.toNat, 1))) := ⟨by rw [← HV.out, HDR.out, show c = 92 from UInt8.toNat_inj.1 hk]; rfl⟩
            clear hk
            go_wp2
            rw [HVV.out]
            exact bodyPost_ret (v := .tuple #[.int .u16 (c.toNat : Int), .int .i64 1]) (by simp [results, Tryd.results29, go_sem]) rfl ⟨rfl, Below.refl _ _⟩
          · have hk92 : ¬ c.toNat = 92 := hk
            clear hk
            by_cases hk : c.toNat = 39
            · have b110 : ((c.toNat : Int) == 110) = false := beq_eq_false_iff_ne.2 (by omega)
              have b116 : ((c.toNat : Int) == 116) = false := beq_eq_false_iff_ne.2 (by omega)
              have b48 : ((c.toNat : Int) == 48) = false := beq_eq_false_iff_ne.2 (by omega)
              have b92 : ((c.toNat : Int) == 92) = false := beq_eq_false_iff_ne.2 (by omega)
              have b39 : ((c.toNat : Int) == 39) = true := beq_iff_eq.2 (by omega)
              have b34 : ((c.toNat : Int) == 34) = false := beq_eq_false_iff_ne.2 (by omega)
              have b117 : ((c.toNat : Int) == 117) = false := beq_eq_false_iff_ne.2 (by omega)
              have HVV : Veil (v = escV (some (c.toNat, 1))) := ⟨by rw [← HV.out, HDR.out, show c = 39 from UInt8.toNat_inj.1 hk]; rfl⟩
              clear hk
              go_wp2
              rw [HVV.out]
              exact bodyPost_ret (v := .tuple #[.int .u16 (c.toNat : Int), .int .i64 1]) (by simp [results, Tryd.results29, go_sem]) rfl ⟨rfl, Below.refl _ _⟩
            · have hk39 : ¬ c.toNat = 39 := hk
              clear hk
              by_cases hk : c.toNat = 34
              · have b110 : ((c.toNat : Int) == 110) = false := beq_eq_false_iff_ne.2 (by omega)
                have b116 : ((c.toNat : Int) == 116) = false := beq_eq_false_iff_ne.2 (by omega)
                have b48 : ((c.toNat : Int) == 48) = false := beq_eq_false_iff_ne.2 (by omega)
                have b92 : ((c.toNat : Int) == 92) = false := beq_eq_false_iff_ne.2 (by omega)
                have b39 : ((c.toNat : Int) == 39) = false := beq_eq_false_iff_ne.2 (by omega)
                have b34 : ((c.toNat : Int) == 34) = true := beq_iff_eq.2 (by omega)
                have b117 : ((c.toNat : Int) == 117) = false := beq_eq_false_iff_ne.2 (by omega)
                have HVV : Veil (v = escV (some (c.toNat, 1))) := ⟨by rw [← HV.out, HDR.out, show c = 34 from UInt8.toNat_inj.1 hk]; rfl⟩
                clear hk
                go_wp2
                rw [HVV.out]
                exact bodyPost_ret (v := .tuple #[.int .u16 (c.toNat : Int), .int .i64 1]) (by simp [results, Tryd.results29, go_sem]) rfl ⟨rfl, Below.refl _ _⟩
              · have hk34 : ¬ c.toNat = 34 := hk
                clear hk
                by_cases hk : c.toNat = 117
                · have b110 : ((c.toNat : Int) == 110) = false := beq_eq_false_iff_ne.2 (by omega)
                  have b116 : ((c.toNat : Int) == 116) = false := beq_eq_false_iff_ne.2 (by omega)
                  have b48 : ((c.toNat : Int) == 48) = false := beq_eq_false_iff_ne.2 (by omega)
                  have b92 : ((c.toNat : Int) == 92) = false := beq_eq_false_iff_ne.2 (by omega)
                  have b39 : ((c.toNat : Int) == 39) = false := beq_eq_false_iff_ne.2 (by omega)
                  have b34 : ((c.toNat : Int) == 34) = false := beq_eq_false_iff_ne.2 (by omega)
                  have b117 : ((c.toNat : Int) == 117) = true := beq_iff_eq.2 (by omega)
                  have HVV : Veil (v = escV (if s.data.toList.length < 5 then none else (hexF 0 ((s.data.toList.drop 1).take 4)).map fun u => (u, 5))) := ⟨by rw [← HV.out, HDR.out, show c = 117 from UInt8.toNat_inj.1 hk]; rfl⟩
                  obtain ⟨u, n, huv⟩ := escV_parts (if s.data.toList.length < 5 then none else (hexF 0 ((s.data.toList.drop 1).take 4)).map fun u => (u, 5))
                  have HH : Veil (∀ w, Calls Tryd.prog 39 #[.string s] w (BelPost w (.tuple #[.int .u16 u, .int .i64 n]))) := ⟨fun w => by rw [← huv]; exact hex_any s hs w⟩
                  rw [huv] at HVV
                  clear hk huv
                  go_wp2_with (first | (go_at_call 39; ((with_reducible refine (HH.out _).mono ?_); rintro e9 w9 ⟨rfl, hb9⟩)))
                  rw [HVV.out]
                  exact bodyPost_ret (v := .tuple #[.int .u16 u, .int .i64 n]) (by simp [results, Tryd.results29, go_sem]) rfl ⟨rfl, hb9⟩
                · have hk117 : ¬ c.toNat = 117 := hk
                  clear hk
                  have b110 : ((c.toNat : Int) == 110) = false := beq_eq_false_iff_ne.2 (by omega)
                  have b116 : ((c.toNat : Int) == 116) = false := beq_eq_false_iff_ne.2 (by omega)
                  have b48 : ((c.toNat : Int) == 48) = false := beq_eq_false_iff_ne.2 (by omega)
                  have b92 : ((c.toNat : Int) == 92) = false := beq_eq_false_iff_ne.2 (by omega)
                  have b39 : ((c.toNat : Int) == 39) = false := beq_eq_false_iff_ne.2 (by omega)
                  have b34 : ((c.toNat : Int) == 34) = false := beq_eq_false_iff_ne.2 (by omega)
                  have b117 : ((c.toNat : Int) == 117) = false := beq_eq_false_iff_ne.2 (by omega)
                  have HVV : Veil (v = escV none) := ⟨by
                    rw [← HV.out, HDR.out]
                    simp only [escL]
                    rw [if_neg (cne hk110 rfl), if_neg (cne hk116 rfl), if_neg (cne hk48 rfl), if_neg (by rintro (h | h | h); exact cne hk92 rfl h; exact cne hk39 rfl h; exact cne hk34 rfl h), if_neg (cne hk117 rfl)]⟩
                  go_wp2
                  rw [HVV.out]
                  exact bodyPost_ret (v := .tuple #[.int .u16 0, .int .i64 0]) (by simp [results, Tryd.results29, go_sem]) rfl ⟨rfl, Below.refl _ _⟩
end Go.Proofs.YtfejompnjaifmaaDoor
