/- Package arena: Clear at any faint cells. -/
import Derived.Test.YtkkbfadfgdjkdaaDa
import Derived.Maps.AppendAt
namespace Go.Proofs.Ytkkbfadfgdjkdaa
open Go Go.RowKit

theorem clone_val {w : World} {B n size m : Nat} {v : Value} {xs : List Value} {e : TypeId} {ad : Addr} {c : Nat} (h : w.ownsRow B e size v n xs) (hn : v = .slice none 0 0 ↔ Value.slice (some ad) 0 c = .slice none 0 0 ∧ m = 0) : ∃ g cap, v = .slice (some ⟨g, 0, none⟩) n cap := by
  rcases h.2 with ⟨h1, _⟩ | ⟨g, cap, _, h1, _⟩
  · cases (hn.1 h1).1
  · exact ⟨g, cap, h1⟩
set_option maxHeartbeats 1000000 in
set_option maxRecDepth 100000 in
theorem clone_any (g c B : Nat) (L : List Int) (hL : L.length ≤ 1000000) (w : World) (h : w.ownsRow B 3 1 (.slice (some ⟨g, 0, none⟩) L.length c) L.length (intsV L)) : Calls Try.prog 36 #[.slice (some ⟨g, 0, none⟩) L.length c] w fun e w' => ∃ g2 cap, e = .returned (.slice (some ⟨g2, 0, none⟩) L.length cap) ∧ Below w.heap.size w w' ∧ w'.ownsRow w.heap.size 3 1 (.slice (some ⟨g2, 0, none⟩) L.length cap) L.length (intsV L) := by
  have q : ∀ (w : World) (a : Option Addr) (n c n' c' : Nat), (binOp .eql 22 (.slice a n c) (.slice none n' c')).run Try.prog w = .ok (.bool a.isNone) w := fun w a n c n' c' => Lib.run_eql_slice_nil w _ _ a n c n' c' Try.underlying22
  obtain ⟨i0, hi, hz0, hz1, hz2⟩ := info_parts Try.infoI
  obtain ⟨n, hn⟩ : ∃ n, L.length = n := ⟨_, rfl⟩
  have hro : (w.alloc (.cells #[] 3)).ownsRow w.heap.size 3 1 (.slice (some ⟨w.heap.size, 0, none⟩) 0 0) 0 [] := ⟨rfl, .inr ⟨w.heap.size, 0, #[], rfl, Nat.le_refl _, Box.new w 3 #[], Nat.le_refl _, Nat.zero_le _, rfl, rfl⟩⟩
  have hlt : g < w.heap.size := (own_lt h g rfl).2
  have hlen : (intsV L).length = n := by rw [← hn]; exact List.length_map ..
  have hsrc : ∀ (j : Nat) (u : Value), (intsV L)[j]? = some u → (w.alloc (.cells #[] 3)).cell? ((⟨g, 0, none⟩ : Addr).add j) = some u := fun j u hj => by
    have hjl : j < (intsV L).length := (List.getElem?_eq_some_iff.1 hj).1
    have e : ((⟨g, 0, none⟩ : Addr).add j) = ⟨g, j, none⟩ := by
      unfold Addr.add; split
      · simp [*]
      · simp
    rw [e, ((Below.refl w.heap.size w).alloc (Nat.le_refl _) _).cell (p := ⟨g, j, none⟩) hlt, h.cellAt j (by omega)]
    exact hj
  have hone : ∀ v ∈ intsV L, v.oneCell' = true := fun v hv => by
    obtain ⟨x, -, rfl⟩ := List.mem_map.1 hv
    rfl
  rw [hn] at h hL ⊢
  have hs0 : w.heap.size ≤ (w.alloc (.cells #[] 3)).heap.size := by rw [World.size_alloc]; omega
  have hb0 : Below w.heap.size w (w.alloc (.cells #[] 3)) := (Below.refl _ _).alloc (Nat.le_refl _) _
  have HH := Veil.mk (And.intro hs0 hb0)
  have HL := Veil.mk hlen
  clear hb0 h
  go_enter Try.func36, Try.ntmps36
  go_upto_region 3 with (fail)
  go_wp2_with (at_builtin; go_loud (refine wpList_append_own_at _ rfl _ _ 22 rfl w.heap.size 3 i0 (.int .i64 0) 1 8 Try.underlying22 hi hz0 hz1 hz2 rfl (by decide) _ 0 [] rfl hro ⟨g, 0, none⟩ n c (intsV L) rfl (by rw [HL.out]; omega) hsrc hone (by unfold maxLen; omega) (by omega) HH.out.1 ?_); intro v5 w5 hown2 hgrow2 hnil2 hblk2; obtain ⟨g2, cap2, hv5⟩ := clone_val hown2 hnil2; subst hv5; refine Hid.out ?_)
  have ht2 : Touch (fun b => b = w.heap.size) (w.alloc (.cells #[] 3)) w5 := Touch.of_grown hgrow2 (fun b hb => by
    have hb : (Value.slice (some ⟨w.heap.size, 0, none⟩) 0 0).ownBlock = some b := hb
    injection hb with hb
    exact hb.symm)
  rw [Nat.zero_add, List.nil_append] at hown2
  have HF := Veil.mk (And.intro (HH.out.2.trans (ht2.below HH.out.1 (fun k hk => by omega))) hown2)
  clear ht2 hgrow2 hblk2 hnil2 hown2 hro hsrc hs0 hone
  refine Lib.hid ?_
  go_wp2
  go_ret
  exact ⟨g2, cap2, rfl, HF.out.1, HF.out.2⟩
/-- What Clear leaves, of the first k. -/
def clrL (D : Int → Bool) (l : List Int) (k : Nat) : List Int := ((l.take k).map fun x => if D x = true then 0 else x) ++ l.drop k
theorem clrL_zero (D : Int → Bool) (l : List Int) : clrL D l 0 = l := rfl
theorem clrL_len (D : Int → Bool) (l : List Int) (k : Nat) : (clrL D l k).length = l.length := by
  unfold clrL
  rw [List.length_append, List.length_map, ← List.length_append, List.take_append_drop]
theorem clrL_at (D : Int → Bool) (l : List Int) (k : Nat) : (clrL D l k)[k]? = l[k]? := by
  unfold clrL
  rcases Nat.lt_or_ge k l.length with h | h
  · rw [List.getElem?_append_right (by rw [List.length_map, List.length_take]; omega), List.length_map, List.length_take, Nat.min_eq_left (by omega), Nat.sub_self, List.getElem?_drop, Nat.add_zero]
  · rw [List.getElem?_eq_none (by rw [List.length_append, List.length_map, List.length_take, List.length_drop]; omega), List.getElem?_eq_none h]
theorem clrL_succ {D : Int → Bool} {l : List Int} {k : Nat} {x : Int} (h : l[k]? = some x) : clrL D l (k + 1) = if D x = true then (clrL D l k).set k 0 else clrL D l k := by
  obtain ⟨hl, he⟩ := List.getElem?_eq_some_iff.1 h
  unfold clrL
  rw [List.take_add_one, h, Option.toList_some, List.map_append, List.append_assoc, List.drop_eq_getElem_cons hl, he]
  have hlen : ((l.take k).map fun x => if D x = true then 0 else x).length = k := by rw [List.length_map, List.length_take]; omega
  split
  · rename_i hd
    rw [List.set_append_right _ _ (by omega), hlen, Nat.sub_self]
    simp [hd]
  · rename_i hd
    simp [hd]
set_option maxHeartbeats 4000000 in
set_option maxRecDepth 100000 in
theorem clear_any (nb m fb fc B : Nat) (D : Int → Bool) (L : List Int) (hL : L.length ≤ 1000000) (v0 v1 v3 : Value) (w : World) (h : Box w nb 30 #[v0, v1, .slice (some ⟨fb, 0, none⟩) L.length fc, v3]) (ht : w.ownsRow B 3 1 (.slice (some ⟨fb, 0, none⟩) L.length fc) L.length (intsV L))
    (hD : ∀ (k : Int) w', Touch (fun b => b = nb) w w' → Calls Try.prog 29 #[.pointer (some ⟨m, 0, none⟩), .int .i64 k] w' fun e w9 => e = .returned (.bool (D k)) ∧ w9 = w') :
    Calls Try.prog 22 #[.pointer (some ⟨nb, 0, none⟩), deadV m] w fun e w' => e = .returned (.tuple #[]) ∧ ∃ g cap, Touch (fun k => k = nb) w w' ∧ Box w' nb 30 #[v0, v1, .slice (some ⟨g, 0, none⟩) L.length cap, v3] ∧ w'.ownsRow w.heap.size 3 1 (.slice (some ⟨g, 0, none⟩) L.length cap) L.length (intsV (clrL D L L.length)) := by
  have c1 : w.cell? ⟨nb, 2, none⟩ = some (.slice (some ⟨fb, 0, none⟩) L.length fc) := h.at_ 2
  have HC := Veil.mk (clone_any fb fc B L hL w ht)
  have HNB := Veil.mk h
  have HD := Veil.mk hD
  obtain ⟨n, hn⟩ : ∃ n, L.length = n := ⟨_, rfl⟩
  rw [hn] at HC HNB c1 hL ⊢
  have HN := Veil.mk hn
  clear h ht hD hn
  go_enter Try.func22, Try.ntmps22
  go_upto_region 2 with (first | (go_at_call 36; ((with_reducible refine HC.out.mono ?_); rintro e9 w9 ⟨g, cap, rfl, hb9, ho9⟩; have bn9 := HNB.out.on hb9 HNB.out.lt; have d1 := bn9.at_ 2; have d1f := bn9.free 2)))
  clear d1 d1f c1
  have hgl := own_lt ho9 g rfl
  have hne : g ≠ nb := by have := HNB.out.lt; omega
  have tp : Touch (fun k => k = nb) w9 (w9.setCell ⟨nb, 2, none⟩ (.slice (some ⟨g, 0, none⟩) n cap)) := Touch.put (S := fun k => k = nb) rfl _ _
  have bn10 := bn9.put 2 (.slice (some ⟨g, 0, none⟩) n cap)
  have ho10 := own_touch ho9 tp (fun b hb e => by injection hb with hb; exact hne (hb.trans e))
  have T10 : Touch (fun k => k = nb) w (w9.setCell ⟨nb, 2, none⟩ (.slice (some ⟨g, 0, none⟩) n cap)) := (Touch.of_below hb9).trans tp
  generalize w9.setCell ⟨nb, 2, none⟩ (.slice (some ⟨g, 0, none⟩) n cap) = w10 at bn10 ho10 T10 ⊢
  have c1 : w10.cell? ⟨nb, 2, none⟩ = some (.slice (some ⟨g, 0, none⟩) n cap) := bn10.at_ 2
  have HP := Veil.mk (And.intro T10 (And.intro bn10 (And.intro ho10 hgl.1)))
  clear tp bn10 ho10 T10 bn9 hb9 ho9 hgl
  go_upto_region 3 with (fail)
  clear c1
  go_loopw [21] (fun i wr => ∃ k : Nat, k ≤ n ∧ i = .int .i64 (k : Int) ∧ Touch (fun b => b = nb) w wr ∧ Box wr nb 30 #[v0, v1, .slice (some ⟨g, 0, none⟩) n cap, v3] ∧ wr.ownsRow w.heap.size 3 1 (.slice (some ⟨g, 0, none⟩) n cap) n (intsV (clrL D L k))) (fun i _ => n - (intOf i).toNat)
  case atStart => exact ⟨0, Nat.zero_le _, rfl, HP.out.1, HP.out.2.1, HP.out.2.2.1⟩
  case round =>
    obtain ⟨k, hk, rfl, hT, bn, ho⟩ := hrel
    have hk0 : (0 : Int) ≤ (k : Int) := by omega
    by_cases hkt : k < n
    · have hkt' : (k : Int) < (n : Int) := by omega
      have hkb : (k : Int) < 1000000 := by omega
      obtain ⟨x, hx⟩ : ∃ x, L[k]? = some x := ⟨_, List.getElem?_eq_getElem (by have := HN.out; omega)⟩
      have c1 : wr.cell? ⟨nb, 2, none⟩ = some (.slice (some ⟨g, 0, none⟩) n cap) := bn.at_ 2
      have c2 : wr.cell? ⟨g, k, none⟩ = some (.int .i64 x) := by
        rw [ho.cellAt k (by omega), List.getElem?_map, clrL_at, hx]
        rfl
      obtain ⟨cur, bg⟩ := row_box ho
      have c2f := bg.free k
      have HH := Veil.mk (HD.out x wr hT)
      have hsucc := clrL_succ (D := D) hx
      cases hd : D x with
      | true =>
        rw [hd] at HH
        rw [hd, if_pos rfl] at hsucc
        have tp : Touch (fun b => b = g) wr (wr.setCell ⟨g, k, none⟩ (.int .i64 0)) := Touch.put (S := fun b => b = g) rfl _ _
        have ho2 := own_put ho k (.int .i64 0)
        have e9 : (intsV (clrL D L k)).set k (.int .i64 0) = intsV (clrL D L (k + 1)) := by rw [hsucc]; exact (List.map_set ..).symm
        rw [e9] at ho2
        have hT2 : Touch (fun b => b = nb) w (wr.setCell ⟨g, k, none⟩ (.int .i64 0)) := ((hT.mono (S' := fun b => b = nb ∨ b = g) (fun _ h => .inl h)).trans (tp.mono (fun _ h => .inr h))).drop (fun b hb h => by
          rcases h with h | h
          · exact h
          · have := HP.out.2.2.2
            omega)
        have HF := Veil.mk (And.intro hT2 (And.intro (bn.touch tp (fun e => hne e.symm)) ho2))
        clear hT bn ho bg hsucc hd tp ho2 e9 hT2 hx
        go_wp2_with (first | (go_at_call 29; ((with_reducible refine HH.out.mono ?_); rintro e9 w9 ⟨rfl, h9⟩; subst w9)))
        go_round
        case rel => exact ⟨k + 1, by omega, by go_num, HF.out.1, HF.out.2.1, HF.out.2.2⟩
        case measure => simp [intOf]; omega
      | false =>
        rw [hd] at HH
        rw [hd, if_neg (by decide)] at hsucc
        rw [← hsucc] at ho
        have HF := Veil.mk (And.intro hT (And.intro bn ho))
        clear hT bn ho bg hsucc hd hx
        go_wp2_with (first | (go_at_call 29; ((with_reducible refine HH.out.mono ?_); rintro e9 w9 ⟨rfl, h9⟩; subst w9)))
        go_round
        case rel => exact ⟨k + 1, by omega, by go_num, HF.out.1, HF.out.2.1, HF.out.2.2⟩
        case measure => simp [intOf]; omega
    · obtain rfl : k = n := by omega
      have hkt' : ¬ (k : Int) < (k : Int) := by omega
      have HF := Veil.mk (And.intro hT (And.intro bn ho))
      clear hT bn ho
      go_wp2
      refine bodyPost_end (results_none rfl _ _ _) rfl ?_
      first | exact ⟨rfl, g, cap, HF.out.1, HF.out.2.1, HF.out.2.2⟩ | exact ⟨rfl, HF.out.1, g, cap, HF.out.2.1, HF.out.2.2⟩ | exact ⟨rfl, HF.out.1, g, ⟨cap, HF.out.2.1, HF.out.2.2⟩⟩
end Go.Proofs.Ytkkbfadfgdjkdaa
