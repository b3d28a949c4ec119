/- Package arena: Drop at any table. -/
import Derived.Test.YtkkbfadfgdjkdaaBa
namespace Go.Proofs.Ytkkbfadfgdjkdaa
open Go Go.RowKit

/-- A slice value reads as these pairs. -/
def TabIs (w : World) (a : Option Addr) (n : Nat) (l : List (Int × Int)) : Prop := l.length = n ∧ (0 < n → ∃ b o, a = some ⟨b, o, none⟩ ∧ b < w.heap.size ∧ ∀ (i : Nat) (x : Int × Int), l[i]? = some x → w.cell? ⟨b, o + i * 2, none⟩ = some (.int .i64 x.1) ∧ w.cell? ⟨b, o + i * 2 + 1, none⟩ = some (.int .i64 x.2))
theorem TabIs.on {w w1 : World} {a : Option Addr} {n : Nat} {l : List (Int × Int)} (h : TabIs w a n l) (hb : Below w.heap.size w w1) : TabIs w1 a n l :=
  ⟨h.1, fun hn => by
    obtain ⟨b, o, e, hlt, hc⟩ := h.2 hn
    exact ⟨b, o, e, by have := hb.size; omega, fun i x hi => by rw [hb.cell (p := ⟨b, o + i * 2, none⟩) hlt, hb.cell (p := ⟨b, o + i * 2 + 1, none⟩) hlt]; exact hc i x hi⟩⟩
def flat2 (l : List (Int × Int)) : List Value := l.flatMap fun p => [.int .i64 p.1, .int .i64 p.2]
theorem flat2_snoc (l : List (Int × Int)) (p : Int × Int) : flat2 (l ++ [p]) = flat2 l ++ [.int .i64 p.1, .int .i64 p.2] := by
  unfold flat2
  simp
/-- The pairs that stay, of the first k. -/
def stayL (D : Int → Bool) (l : List (Int × Int)) (k : Nat) : List (Int × Int) := (l.take k).filter fun p => !D p.1
theorem stayL_yes {D : Int → Bool} {l : List (Int × Int)} {k : Nat} {p : Int × Int} (h : l[k]? = some p) (hd : D p.1 = true) : stayL D l (k + 1) = stayL D l k := by
  unfold stayL
  rw [List.take_add_one, h, Option.toList_some, List.filter_append]
  simp [hd]
theorem stayL_no {D : Int → Bool} {l : List (Int × Int)} {k : Nat} {p : Int × Int} (h : l[k]? = some p) (hd : D p.1 = false) : stayL D l (k + 1) = stayL D l k ++ [p] := by
  unfold stayL
  rw [List.take_add_one, h, Option.toList_some, List.filter_append]
  simp [hd]
theorem stayL_len (D : Int → Bool) (l : List (Int × Int)) (k : Nat) : (stayL D l k).length ≤ k := by
  unfold stayL
  have h1 := List.length_filter_le (fun p : Int × Int => !D p.1) (l.take k)
  have h2 := List.length_take_le k l
  omega
set_option maxHeartbeats 4000000 in
set_option maxRecDepth 100000 in
theorem drop_any (nb m : Nat) (D : Int → Bool) (ta : Option Addr) (n ca : Nat) (L : List (Int × Int)) (hn : n ≤ 1000000) (v0 v2 v3 : Value) (w : World) (h : Box w nb 30 #[v0, .slice ta n ca, v2, v3]) (hT : TabIs w ta n L)
    (hD : ∀ (k : Int) w', Below w.heap.size w w' → Calls Try.prog 29 #[.pointer (some ⟨m, 0, none⟩), .int .i64 k] w' fun e w9 => e = .returned (.bool (D k)) ∧ w9 = w') :
    Calls Try.prog 20 #[.pointer (some ⟨nb, 0, none⟩), deadV m] w fun e w' => e = .returned (.tuple #[]) ∧ ∃ tv, Touch (fun k => k = nb) w w' ∧ Box w' nb 30 #[v0, tv, v2, v3] ∧ w'.ownsRow w.heap.size 32 2 tv (stayL D L n).length (flat2 (stayL D L n)) := by
  have c1 : w.cell? ⟨nb, 1, none⟩ = some (.slice ta n ca) := h.at_ 1
  have HNB := Veil.mk h
  have HT := Veil.mk hT
  have HD := Veil.mk hD
  obtain ⟨iP, hiP, hiP0, hiP1, hiP2⟩ := info_parts Try.infoP
  clear h hT hD
  go_enter Try.func20, Try.ntmps20
  go_wp2
  clear c1
  go_loopw [4, 14] (fun lv i wr => ∃ k : Nat, k ≤ n ∧ i = .int .i64 (k : Int) ∧ Below w.heap.size w wr ∧ wr.ownsRow w.heap.size 32 2 lv (stayL D L k).length (flat2 (stayL D L k))) (fun _ i _ => n - (intOf i).toNat)
  case atStart => exact ⟨0, Nat.zero_le _, rfl, Below.refl _ _, ⟨rfl, .inl ⟨rfl, rfl⟩⟩⟩
  case round =>
    obtain ⟨k, hk, rfl, hb, hrow⟩ := hrel
    have hk0 : (0 : Int) ≤ (k : Int) := by omega
    by_cases hkt : k < n
    · have hkt' : (k : Int) < (n : Int) := by omega
      have hkb : (k : Int) < 1000000 := by omega
      obtain ⟨b, o, rfl, hbl, hcc⟩ := (HT.out.on hb).2 (by omega)
      obtain ⟨⟨x0, x1⟩, hx⟩ : ∃ x, L[k]? = some x := ⟨_, List.getElem?_eq_getElem (by have := HT.out.1; omega)⟩
      obtain ⟨d0, d1⟩ := hcc k _ hx
      have hlen := stayL_len D L k
      have hb2 : Below w.heap.size w (wr.alloc (.cells #[.int .i64 x0, .int .i64 x1] 32)) := hb.alloc hb.size _
      have HB2 := Veil.mk hb2
      have HX := Veil.mk hx
      have HH := Veil.mk (HD.out x0 _ hb2)
      cases hd : D x0 with
      | true =>
        rw [hd] at HH
        have HR := Veil.mk (show (wr.alloc (.cells #[.int .i64 x0, .int .i64 x1] 32)).ownsRow w.heap.size 32 2 u4 (stayL D L (k + 1)).length (flat2 (stayL D L (k + 1))) by rw [stayL_yes hx hd]; exact hrow.alloc _)
        clear hb hrow hcc hbl hb2 hx hd
        go_wp2_with (first | (go_at_call 29; ((with_reducible refine HH.out.mono ?_); rintro e9 w9 ⟨rfl, h9⟩; subst w9)))
        go_round
        case rel => exact ⟨k + 1, by omega, by go_num, HB2.out, HR.out⟩
        case measure => simp [intOf]; omega
      | false =>
        rw [hd] at HH
        have HST := Veil.mk (stayL_no hx hd)
        have hrow2 := hrow.alloc (.cells #[.int .i64 x0, .int .i64 x1] 32)
        have hsz0 : w.heap.size ≤ (wr.alloc (.cells #[.int .i64 x0, .int .i64 x1] 32)).heap.size := hb2.size
        have bq := Box.new wr 32 #[.int .i64 x0, .int .i64 x1]
        clear hb hrow hcc hbl hb2 hx hd
        go_upto_region 6 with (first | (go_at_call 29; ((with_reducible refine HH.out.mono ?_); rintro e9 w9 ⟨rfl, h9⟩; subst w9)))
        clear HH d0 d1
        obtain ⟨pb, hpb⟩ : ∃ pb, wr.heap.size = pb := ⟨_, rfl⟩
        rw [hpb] at bq ⊢
        obtain ⟨w3, hw3⟩ : ∃ w3, wr.alloc (.cells #[.int .i64 x0, .int .i64 x1] 32) = w3 := ⟨_, rfl⟩
        rw [hw3] at hrow2 hsz0 bq HB2 ⊢
        have q0 : w3.cell? ⟨pb, 0, none⟩ = some (.int .i64 x0) := bq.at_ 0
        have q1 : w3.cell? ⟨pb, 1, none⟩ = some (.int .i64 x1) := bq.at_ 1
        clear bq
        go_wp2_with (at_builtin; go_loud (refine wpList_append_lies _ rfl _ _ 28 rfl w.heap.size 32 iP (.agg #[.int .i64 0, .int .i64 0]) 2 16 Try.underlying28 hiP hiP0 hiP1 hiP2 rfl (by decide) _ _ _ rfl (hrow2.alloc _) ⟨w3.heap.size, 0, none⟩ 1 1 [.int .i64 x0, .int .i64 x1] rfl rfl (news_at _ _ rfl _ _) (by simp [Value.oneCell']) (by decide) (by unfold maxLen; omega) (by omega) (by simp; omega) _ rfl ?_); intro g2 cap2 w5 hown2 hgrow2 hblk2 hg2; refine Hid.out ?_)
        have ht2 : Touch (fun b => u4.ownBlock = some b) (w3.alloc (.cells #[.int .i64 x0, .int .i64 x1] 32)) w5 := Touch.of_grown hgrow2 (fun b hb => hb)
        have hb5 : Below w.heap.size w w5 := (HB2.out.alloc hsz0 _).trans (ht2.below (by simp; omega) (fun b hb => (own_lt hrow2 b hb).1))
        have hrow5 : w5.ownsRow w.heap.size 32 2 (.slice (some ⟨g2, 0, none⟩) ((stayL D L k).length + 1) cap2) (stayL D L (k + 1)).length (flat2 (stayL D L (k + 1))) := by
          rw [HST.out, List.length_append, flat2_snoc]
          exact hown2
        have HF := Veil.mk (And.intro hb5 hrow5)
        clear hb5 hrow5 ht2 hgrow2 hblk2 hg2 hown2 hrow2 q0 q1 hw3 HB2 hsz0
        refine Lib.hid ?_
        go_wp2
        go_round
        case rel => exact ⟨k + 1, by omega, by go_num, HF.out.1, HF.out.2⟩
        case measure => simp [intOf]; omega
    · obtain rfl : k = n := by omega
      have hkt' : ¬ (k : Int) < (k : Int) := by omega
      obtain ⟨so, sc, rfl, -, -, -⟩ := slice_own hrow
      have bn := HNB.out.on hb HNB.out.lt
      have c1 : wr.cell? ⟨nb, 1, none⟩ = some (.slice ta k ca) := bn.at_ 1
      have c1f := bn.free 1
      have HF := Veil.mk (And.intro hb (And.intro bn hrow))
      clear hb bn hrow
      go_wp2
      obtain ⟨hb, bn, hrow⟩ := HF.out
      have hlb : ∀ lv : Value, Touch (fun b => b = nb) wr (wr.setCell ⟨nb, 1, none⟩ lv) := fun lv => Touch.put (S := fun b => b = nb) rfl _ _
      refine bodyPost_end (results_none rfl _ _ _) rfl ?_
      exact ⟨rfl, (Touch.of_below hb).trans (hlb _), .slice so (stayL D L k).length sc, bn.put 1 _, own_touch hrow (hlb _) (fun b hb9 e => (own_lab hrow b hb9).ne bn.lab (by decide) e)⟩
end Go.Proofs.Ytkkbfadfgdjkdaa
