/- TextGo: the reference's Go. -/
import Derived.Test.YtbkgophgclpijaaSl
import Derived.BigRegion
namespace Go.Proofs.Ytbkgophgclpijaa
open Go.RowKit

theorem goR_len (c : Nat) : (goR c).length ≤ 6 := by
  unfold goR
  split
  · simp
  · split
    · simp [hex4]
    · have := (encode_len (c : Int)).2; omega
theorem goL_len : ∀ S : List (List Nat), (goL S).length ≤ 6 * S.length
  | [] => by simp [goL]
  | us :: S => by
    have h1 := goR_len (cpO us)
    have h2 := goL_len S
    have e : goL (us :: S) = goR (cpO us) ++ goL S := rfl
    rw [e, List.length_append, List.length_cons]
    omega
theorem goL_snoc (S : List (List Nat)) (us : List Nat) : goL (S ++ [us]) = goL S ++ goR (cpO us) := by simp [goL]
theorem signs_form : ∀ (l : List Nat) (us : List Nat), us ∈ signs l → (∃ u, us = [u] ∧ u ∈ l) ∨ ∃ u v, us = [u, v] ∧ isHi u = true ∧ isLo v = true
  | [], us, h => by simp [signs] at h
  | [u], us, h => by simp [signs] at h; subst h; exact .inl ⟨u, rfl, by simp⟩
  | u :: v :: r, us, h => by
    unfold signs at h
    split at h
    · rename_i hc
      rcases List.mem_cons.1 h with rfl | h
      · exact .inr ⟨u, v, rfl, Bool.and_eq_true_iff.1 hc⟩
      · rcases signs_form r us h with ⟨x, h1, h2⟩ | h
        · exact .inl ⟨x, h1, List.mem_cons_of_mem _ (List.mem_cons_of_mem _ h2)⟩
        · exact .inr h
    · rcases List.mem_cons.1 h with rfl | h
      · exact .inl ⟨u, rfl, by simp⟩
      · rcases signs_form (v :: r) us h with ⟨x, h1, h2⟩ | h
        · exact .inl ⟨x, h1, List.mem_cons_of_mem _ h2⟩
        · exact .inr h
theorem cpO_one (u : Nat) : cpO [u] = u := by simp [cpO, ptP, isLo_zero]
theorem cpO_two (u v : Nat) (hu : isHi u = true) (hv : isLo v = true) : cpO [u, v] = 65536 + (u - 55296) * 1024 + (v - 56320) := by
  unfold cpO
  simp only [List.getElem?_cons_zero, List.getElem?_cons_succ, Option.getD_some]
  unfold ptP
  rw [hu, hv]
  rfl
theorem cat_str (a b : List UInt8) : (⟨a.toArray⟩ : ByteArray) ++ ⟨b.toArray⟩ = ⟨(a ++ b).toArray⟩ := by
  apply ByteArray.ext
  simp
theorem size_str (a : List UInt8) : (⟨a.toArray⟩ : ByteArray).size = a.length := by show a.toArray.size = _; simp

theorem hex_127 (w : World) : Calls Try.prog 26 #[.int .i64 127] w fun e w' => e = .returned (.string ⟨(hex4 127).toArray⟩) ∧ Below w.heap.size w w' := hex_any 127 w (by omega)
def EncPost (B : Nat) (w : World) (r : List UInt8) (e : Ending) (w' : World) : Prop := ∃ v', e = .returned v' ∧ w'.ownsRow B 5 1 v' r.length (Lib.byteCells r) ∧ Below B w w'
theorem appendRune_any (c : Nat) (hc : c ≤ 1114111) (r : List UInt8) (hr : Veil (Lib.encodeRune (c : Int) = r)) (B : Nat) (w : World) (hB : B ≤ w.heap.size) :
    Calls Try.prog 27 #[.slice none 0 0, .int .i32 (c : Int)] w (EncPost B w r) :=
  (Try.utf8_AppendRune_plain B (.slice none 0 0) 0 [] (c : Int) (by omega) (by omega) w (World.ownsRow_nil _ _ _ _) (by omega) hB).mono fun e w' ⟨v', he, hown, o, hg⟩ => by
    rw [cells_len, ← Lib.byteCells_encodeRune, hr.out] at hown
    refine ⟨v', he, by simpa using hown, ((Below.refl _ _).alloc hB _).grown hg (by simp; omega) (fun k h => by cases h)⟩

set_option maxHeartbeats 4000000 in
set_option maxRecDepth 100000 in
theorem refGo_any (a : Option Addr) (n cap : Nat) (l : List Nat) (hn : n ≤ 3000) (hlt : ∀ u ∈ l, u < 65536) (w : World) (h : Nums .i64 w a n l) :
    Calls Try.prog 13 #[.slice a n cap] w fun e w' => e = .returned (.string ⟨(goL (signs l)).toArray⟩) ∧ Below w.heap.size w w' := by
  obtain ⟨S, hS⟩ : ∃ S, S = signs l := ⟨_, rfl⟩
  have SX := Veil.mk hS.symm
  have FX : Veil (∀ us ∈ S, (∃ u, us = [u] ∧ u < 65536) ∨ ∃ u v, us = [u, v] ∧ isHi u = true ∧ isLo v = true) := ⟨fun us hu => by
    rw [hS] at hu
    rcases signs_form l us hu with ⟨u, e, hm⟩ | h
    · exact .inl ⟨u, e, hlt u hm⟩
    · exact .inr h⟩
  have hSl : S.length ≤ 3000 := by rw [hS]; exact Nat.le_trans (signs_count l) (by rw [h.1]; exact hn)
  rw [← hS]
  have HN := Veil.mk h
  have HL := Veil.mk hlt
  clear hS h hlt
  go_enter Try.func13, Try.ntmps13
  go_wp2_with (first | (go_at_call 7; ((with_reducible refine (refSigns_at a _ cap l S (by omega) HL.out SX _ HN.out).mono ?_); rintro e w4 ⟨va, vc, rfl, hR, hb4⟩)))
  obtain ⟨lo, hlo⟩ : ∃ lo, lo = w.heap.size := ⟨_, rfl⟩
  obtain ⟨hi, hhi⟩ : ∃ hi, hi = w4.heap.size := ⟨_, rfl⟩
  rw [← hlo, ← hhi] at hR
  have HLO := Veil.mk hlo
  have HHI := Veil.mk hhi
  clear hlo hhi
  go_loopw [3, 5] (fun out i wr => ∃ k : Nat, k ≤ S.length ∧ i = .int .i64 (k : Int) ∧ out = .string ⟨(goL (S.take k)).toArray⟩ ∧ RowsAt lo hi wr (.slice va S.length vc) S ∧ hi ≤ wr.heap.size ∧ Below w.heap.size w wr) (fun _ i _ => S.length - (intOf i).toNat)
  case atStart => exact ⟨0, by omega, rfl, rfl, hR, by rw [HHI.out]; exact Nat.le_refl _, hb4⟩
  case round =>
    obtain ⟨k, hk, rfl, rfl, hRr, hhr, hbw⟩ := hrel
    clear hR hb4 HHI
    by_cases hp : k < S.length
    · have hus : S[k]? = some S[k] := List.getElem?_eq_getElem hp
      have hform := FX.out S[k] (List.getElem_mem hp)
      have htk : S.take (k + 1) = S.take k ++ [S[k]] := by rw [List.take_add_one, hus]; rfl
      generalize S[k] = us at hus hform htk
      obtain ⟨b, g, cap', hv, hcw, hnu⟩ := hRr.nums hhr k us hus
      cases hv
      have hlen := goL_len (S.take k)
      have htl : (S.take k).length ≤ S.length := by rw [List.length_take]; omega
      have HG := Veil.mk (goL_snoc (S.take k) us)
      rw [← htk] at HG
      have hlti : (k : Int) < (S.length : Int) := by omega
      have hk0 : (0 : Int) ≤ (k : Int) := by omega
      have hws := hbw.size
      generalize hacc : goL (S.take k) = acc at HG hlen
      clear hacc htk
      have hal : acc.length ≤ 18000 := by omega
      have hsz := size_str acc
      have hRk := fun W (hb : Below wr.heap.size wr W) => hRr.kept (W' := W) (fun b o _ h => hb.cell (p := ⟨b, o, none⟩) (Nat.lt_of_lt_of_le h hhr))
      clear hlen htl
      rcases hform with ⟨u, rfl, hu⟩ | ⟨u, v, rfl, hu, hv⟩
      · have hcu : wr.cell? ⟨g, 0, none⟩ = some (.int .i64 (u : Int)) := by
          obtain ⟨_, _, e, _, h⟩ := hnu.2 (by simp)
          cases e
          exact h 0 (by simp)
        rw [cpO_one] at HG
        clear hnu
        by_cases c1 : u = 92
        · subst c1
          have GR : Veil (goR 92 = [92, 92]) := ⟨rfl⟩
          go_wp2
          exact ⟨⟨k + 1, by omega, by go_num, by rw [HG.out, GR.out]; exact congrArg Value.string (cat_str acc [92, 92]), hRr, hhr, hbw⟩, by simp [intOf]; omega⟩
        · have q1 : ((u : Int) == 92) = false := beq_eq_false_iff_ne.2 (by omega)
          by_cases c2 : u < 32 ∨ u = 127 ∨ (55296 ≤ u ∧ u ≤ 57343)
          · have GR : Veil (goR u = 92 :: 117 :: hex4 u) := ⟨by unfold goR; rw [if_neg c1, if_pos c2]⟩
            have z1 : ¬ 9223372036854775807 < acc.length + (2 + (hex4 u).length) := by show ¬ _ < acc.length + (2 + 4); omega
            have z0 : ¬ 9223372036854775807 < 2 + (hex4 u).length := by show ¬ _ < 2 + 4; omega
            by_cases c3 : u < 32
            · have q2 : (u : Int) < 32 := by omega
              clear c2
              go_wp2_with (first | (go_at_call 26; ((with_reducible refine (hex_any _ _ hu).mono ?_); rintro e w5 ⟨rfl, hb5⟩)) | (go_at_call 27; ((with_reducible refine (appendRune_any CC hcc en EN wr.heap.size _ (Nat.le_refl _)).mono ?_); rintro e w5 ⟨v5, rfl, hown5, hb5⟩; have hcv := run_string_own (P := Try.prog) (w := w5) (src := 41) (dst := 9) (e := 5) Try.underlying41 Try.underlying5 Try.underlying9 hown5)))
              exact ⟨⟨k + 1, by omega, by go_num, by rw [HG.out, GR.out]; exact congrArg Value.string ((congrArg (fun z : ByteArray => (⟨acc.toArray⟩ : ByteArray) ++ z) (cat_str [92, 117] (hex4 u))).trans (cat_str acc (92 :: 117 :: hex4 u))), hRk _ hb5, by have := hb5.size; omega, hbw.trans (hb5.mono hws)⟩, by simp [intOf]; omega⟩
            · have q2 : ¬ (u : Int) < 32 := by omega
              by_cases c4 : u = 127
              · subst c4
                clear c2
                go_wp2_with (first | (go_at_call 26; ((with_reducible refine (hex_127 _).mono ?_); rintro e w5 ⟨rfl, hb5⟩)) | (go_at_call 27; ((with_reducible refine (appendRune_any CC hcc en EN wr.heap.size _ (Nat.le_refl _)).mono ?_); rintro e w5 ⟨v5, rfl, hown5, hb5⟩; have hcv := run_string_own (P := Try.prog) (w := w5) (src := 41) (dst := 9) (e := 5) Try.underlying41 Try.underlying5 Try.underlying9 hown5)))
                exact ⟨⟨k + 1, by omega, by go_num, by rw [HG.out, GR.out]; exact congrArg Value.string ((congrArg (fun z : ByteArray => (⟨acc.toArray⟩ : ByteArray) ++ z) (cat_str [92, 117] (hex4 127))).trans (cat_str acc (92 :: 117 :: hex4 127))), hRk _ hb5, by have := hb5.size; omega, hbw.trans (hb5.mono hws)⟩, by simp [intOf]; omega⟩
              · have q3 : ((u : Int) == 127) = false := beq_eq_false_iff_ne.2 (by omega)
                have q4 : (55296 : Int) ≤ (u : Int) := by omega
                have q5 : (u : Int) ≤ 57343 := by omega
                clear c2
                go_wp2_with (first | (go_at_call 26; ((with_reducible refine (hex_any _ _ hu).mono ?_); rintro e w5 ⟨rfl, hb5⟩)) | (go_at_call 27; ((with_reducible refine (appendRune_any CC hcc en EN wr.heap.size _ (Nat.le_refl _)).mono ?_); rintro e w5 ⟨v5, rfl, hown5, hb5⟩; have hcv := run_string_own (P := Try.prog) (w := w5) (src := 41) (dst := 9) (e := 5) Try.underlying41 Try.underlying5 Try.underlying9 hown5)))
                exact ⟨⟨k + 1, by omega, by go_num, by rw [HG.out, GR.out]; exact congrArg Value.string ((congrArg (fun z : ByteArray => (⟨acc.toArray⟩ : ByteArray) ++ z) (cat_str [92, 117] (hex4 u))).trans (cat_str acc (92 :: 117 :: hex4 u))), hRk _ hb5, by have := hb5.size; omega, hbw.trans (hb5.mono hws)⟩, by simp [intOf]; omega⟩
          · obtain ⟨en, hen⟩ : ∃ en, en = Lib.encodeRune (u : Int) := ⟨_, rfl⟩
            have GR : Veil (goR u = en) := ⟨by unfold goR; rw [if_neg c1, if_neg c2, hen]⟩
            have EN := Veil.mk hen.symm
            have HE4 := (encode_len (u : Int)).2
            rw [← hen] at HE4
            have z1 : ¬ 9223372036854775807 < acc.length + en.length := by omega
            have hcc : u ≤ 1114111 := by omega
            have q2 : ¬ (u : Int) < 32 := by omega
            have q3 : ((u : Int) == 127) = false := beq_eq_false_iff_ne.2 (by omega)
            have q6 : IntKind.i32.wrap (u : Int) = (u : Int) := IntWalk.i32_in _ (by omega)
            clear hen
            by_cases c5 : 55296 ≤ u
            · have q4 :  (55296 : Int) ≤ (u : Int) := by omega
              have q5 : ¬ (u : Int) ≤ 57343 := by omega
              clear c2
              go_wp2_with (first | (go_at_call 26; ((with_reducible refine (hex_any _ _ hu).mono ?_); rintro e w5 ⟨rfl, hb5⟩)) | (go_at_call 27; ((with_reducible refine (appendRune_any u hcc en EN wr.heap.size _ (Nat.le_refl _)).mono ?_); rintro e w5 ⟨v5, rfl, hown5, hb5⟩; have hcv := run_string_own (P := Try.prog) (w := w5) (src := 41) (dst := 9) (e := 5) Try.underlying41 Try.underlying5 Try.underlying9 hown5)))
              exact ⟨⟨k + 1, by omega, by go_num, by rw [HG.out, GR.out]; exact congrArg Value.string (cat_str acc en), hRk _ hb5, by have := hb5.size; omega, hbw.trans (hb5.mono hws)⟩, by simp [intOf]; omega⟩
            · have q4 : ¬ (55296 : Int) ≤ (u : Int) := by omega
              clear c2
              go_wp2_with (first | (go_at_call 26; ((with_reducible refine (hex_any _ _ hu).mono ?_); rintro e w5 ⟨rfl, hb5⟩)) | (go_at_call 27; ((with_reducible refine (appendRune_any u hcc en EN wr.heap.size _ (Nat.le_refl _)).mono ?_); rintro e w5 ⟨v5, rfl, hown5, hb5⟩; have hcv := run_string_own (P := Try.prog) (w := w5) (src := 41) (dst := 9) (e := 5) Try.underlying41 Try.underlying5 Try.underlying9 hown5)))
              exact ⟨⟨k + 1, by omega, by go_num, by rw [HG.out, GR.out]; exact congrArg Value.string (cat_str acc en), hRk _ hb5, by have := hb5.size; omega, hbw.trans (hb5.mono hws)⟩, by simp [intOf]; omega⟩
      · have hcu : wr.cell? ⟨g, 0, none⟩ = some (.int .i64 (u : Int)) := by
          obtain ⟨_, _, e, _, h⟩ := hnu.2 (by simp)
          cases e
          exact h 0 (by simp)
        have hcv1 : wr.cell? ⟨g, 1, none⟩ = some (.int .i64 (v : Int)) := by
          obtain ⟨_, _, e, _, h⟩ := hnu.2 (by simp)
          cases e
          have := h 1 (by simp)
          rwa [Nat.zero_add] at this
        rw [cpO_two u v hu hv] at HG
        clear hnu
        obtain ⟨q1, q2⟩ := (isHi_eq u).1 hu
        obtain ⟨q3, q4⟩ := (isLo_eq v).1 hv
        clear hu hv
        obtain ⟨c, hc⟩ : ∃ c : Nat, c = 65536 + (u - 55296) * 1024 + (v - 56320) := ⟨_, rfl⟩
        rw [← hc] at HG
        have hcc : c ≤ 1114111 := by omega
        have hc0 : 65536 ≤ c := by omega
        have hce : 65536 + ((u : Int) - 55296) * 1024 + (v : Int) - 56320 = (c : Int) := by omega
        have q1' : (55296 : Int) ≤ (u : Int) := by omega
        have q2' : (u : Int) ≤ 56319 := by omega
        have q3' : (56320 : Int) ≤ (v : Int) := by omega
        have q4' : (v : Int) ≤ 57343 := by omega
        clear hc
        have HCE := Veil.mk hce
        clear hce
        obtain ⟨en, hen⟩ : ∃ en, en = Lib.encodeRune (c : Int) := ⟨_, rfl⟩
        have GR : Veil (goR c = en) := ⟨by unfold goR; rw [if_neg (by omega), if_neg (by omega), hen]⟩
        have EN := Veil.mk hen.symm
        have HE4 := (encode_len (c : Int)).2
        rw [← hen] at HE4
        have z1 : ¬ 9223372036854775807 < acc.length + en.length := by omega
        have z2 : ((c : Int) == 92) = false := beq_eq_false_iff_ne.2 (by omega)
        have z3 : ¬ (c : Int) < 32 := by omega
        have z4 : ((c : Int) == 127) = false := beq_eq_false_iff_ne.2 (by omega)
        have z5 : (55296 : Int) ≤ (c : Int) := by omega
        have z6 : ¬ (c : Int) ≤ 57343 := by omega
        have z7 : IntKind.i32.wrap (c : Int) = (c : Int) := IntWalk.i32_in _ (by omega)
        clear hen
        go_wp2
        go_region
        rw [HCE.out]
        have hbd : wr.heap.size ≤ wr.drew.heap.size := Nat.le_refl _
        go_wp2_with (first | (go_at_call 27; ((with_reducible refine (appendRune_any c hcc en EN wr.heap.size _ hbd).mono ?_); rintro e w5 ⟨v5, rfl, hown5, hb5⟩; have hcv := run_string_own (P := Try.prog) (w := w5) (src := 41) (dst := 9) (e := 5) Try.underlying41 Try.underlying5 Try.underlying9 hown5)))
        have hb6 : Below wr.heap.size wr w5 := (Below.refl wr.heap.size wr).drew.trans hb5
        exact ⟨⟨k + 1, by omega, by go_num, by rw [HG.out, GR.out]; exact congrArg Value.string (cat_str acc en), hRk _ hb6, by have := hb6.size; omega, hbw.trans (hb6.mono hws)⟩, by simp [intOf]; omega⟩
    · have hkl : k = S.length := by omega
      have HE : Veil (goL (S.take k) = goL S) := ⟨by rw [hkl, List.take_length]⟩
      have hlti : ¬ (k : Int) < (S.length : Int) := by omega
      clear hkl
      go_wp2
      go_ret
      exact ⟨ret_str HE.out, hbw⟩
end Go.Proofs.Ytbkgophgclpijaa
