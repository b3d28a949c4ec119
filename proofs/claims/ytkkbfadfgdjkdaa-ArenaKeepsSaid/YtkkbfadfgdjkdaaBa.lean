/- Package arena: Drop and Clear at one node with two pairs and one faint cell. -/
import Derived.Test.YtkkbfadfgdjkdaaAt
import Derived.Deep.AppendLies
namespace Go.Proofs.Ytkkbfadfgdjkdaa
open Go Go.RowKit

/-- The function value of the law's first closure. -/
abbrev isV (x : Nat) : Value := .func (.func 21) #[] #[.pointer (some ⟨x, 0, none⟩)]
set_option maxRecDepth 100000 in
theorem is_any (x : Nat) (r k : Int) (b : Bool) (hb : (k == r) = b) (w : World) (h : w.cell? ⟨x, 0, none⟩ = some (.int .i64 r)) : Calls Try.prog 21 #[.int .i64 k, .pointer (some ⟨x, 0, none⟩)] w fun e w' => e = .returned (.bool b) ∧ w' = w := by
  go_enter Try.func21, Try.ntmps21
  go_wp2
  go_ret
  exact ⟨rfl, rfl⟩
set_option maxRecDepth 100000 in
theorem all_any (k : Int) (w : World) : Calls Try.prog 23 #[.int .i64 k] w fun e w' => e = .returned (.bool true) ∧ w' = w := by
  go_enter Try.func23, Try.ntmps23
  go_wp2
  go_ret
  exact ⟨rfl, rfl⟩
theorem Try.infoP : (Try.prog.info? 32).map (fun i => (i.zero, i.size, i.bytes)) = some (some (.agg #[.int .i64 0, .int .i64 0]), 2, 16) := by kernel_rfl
set_option maxHeartbeats 2000000 in
set_option maxRecDepth 100000 in
theorem drop_two (nb tb x : Nat) (r r1 : Int) (hr1 : (r1 == r) = false) (v0 v2 v3 : Value) (w : World) (h : Box w nb 30 #[v0, .slice (some ⟨tb, 0, none⟩) 2 2, v2, v3]) (ht : Box w tb 32 #[.int .i64 r, .int .i64 1, .int .i64 r1, .int .i64 2]) (hx : w.cell? ⟨x, 0, none⟩ = some (.int .i64 r)) :
    Calls Try.prog 20 #[.pointer (some ⟨nb, 0, none⟩), isV x] w fun e w' => e = .returned (.tuple #[]) ∧ ∃ g cap, Touch (fun k => k = nb) w w' ∧ Box w' nb 30 #[v0, .slice (some ⟨g, 0, none⟩) 1 cap, v2, v3] ∧ w.heap.size ≤ g ∧ w'.cell? ⟨g, 1, none⟩ = some (.int .i64 2) := by
  have c1 : w.cell? ⟨nb, 1, none⟩ = some (.slice (some ⟨tb, 0, none⟩) 2 2) := h.at_ 1
  have HTB : Veil (∀ w', Below w.heap.size w w' → Box w' tb 32 #[.int .i64 r, .int .i64 1, .int .i64 r1, .int .i64 2]) := ⟨fun w' hb => ht.on hb ht.lt⟩
  have HNB : Veil (∀ w', Below w.heap.size w w' → Box w' nb 30 #[v0, .slice (some ⟨tb, 0, none⟩) 2 2, v2, v3]) := ⟨fun w' hb => h.on hb h.lt⟩
  have HNL := Veil.mk h.lt
  have HX : Veil (∀ w', Below w.heap.size w w' → w'.cell? ⟨x, 0, none⟩ = some (.int .i64 r)) := ⟨fun w' hb => by rw [hb.cell (p := ⟨x, 0, none⟩) (World.block_lt_of_cell? w _ hx)]; exact hx⟩
  have HIS : Veil (∀ (k : Int) (b : Bool) w', (k == r) = b → w'.cell? ⟨x, 0, none⟩ = some (.int .i64 r) → Calls Try.prog 21 #[.int .i64 k, .pointer (some ⟨x, 0, none⟩)] w' fun e w9 => e = .returned (.bool b) ∧ w9 = w') := ⟨fun k b w' hb hc => is_any x r k b hb w' hc⟩
  obtain ⟨iP, hiP, hiP0, hiP1, hiP2⟩ := info_parts Try.infoP
  clear h ht hx
  go_enter Try.func20, Try.ntmps20
  go_wp2
  clear c1
  go_loopw [4, 14] (fun l i wr => ∃ k : Nat, k ≤ 2 ∧ i = .int .i64 (k : Int) ∧ Below w.heap.size w wr ∧ ((k ≤ 1 ∧ l = .slice none 0 0) ∨ (k = 2 ∧ ∃ g cap, l = .slice (some ⟨g, 0, none⟩) 1 cap ∧ wr.ownsRow w.heap.size 32 2 l 1 [.int .i64 r1, .int .i64 2]))) (fun _ i _ => 2 - (intOf i).toNat)
  case atStart => exact ⟨0, by omega, rfl, Below.refl _ _, .inl ⟨by omega, rfl⟩⟩
  case round =>
    obtain ⟨k, hk, rfl, hb, hc⟩ := hrel
    obtain rfl | rfl | rfl : k = 0 ∨ k = 1 ∨ k = 2 := by omega
    · obtain ⟨-, rfl⟩ | ⟨h9, -⟩ := hc
      rotate_left
      · omega
      have bt := HTB.out wr hb
      have t0 : wr.cell? ⟨tb, 0, none⟩ = some (.int .i64 r) := bt.at_ 0
      have t1 : wr.cell? ⟨tb, 1, none⟩ = some (.int .i64 1) := bt.at_ 1
      have hb2 : Below w.heap.size w (wr.alloc (.cells #[.int .i64 r, .int .i64 1] 32)) := hb.alloc hb.size _
      have HD := Veil.mk (HIS.out r true _ (by simp) (HX.out _ hb2))
      have HB2 := Veil.mk hb2
      clear bt hb hb2
      go_wp2_with (first | (go_at_call 21; ((with_reducible refine HD.out.mono ?_); rintro e9 w9 ⟨rfl, h9⟩; subst w9)))
      go_round
      case rel => exact ⟨1, by omega, by go_num, HB2.out, .inl ⟨by omega, rfl⟩⟩
      case measure => simp [intOf]
    · obtain ⟨-, rfl⟩ | ⟨h9, -⟩ := hc
      rotate_left
      · omega
      have bt := HTB.out wr hb
      have t0 : wr.cell? ⟨tb, 2, none⟩ = some (.int .i64 r1) := bt.at_ 2
      have t1 : wr.cell? ⟨tb, 3, none⟩ = some (.int .i64 2) := bt.at_ 3
      have hb2 : Below w.heap.size w (wr.alloc (.cells #[.int .i64 r1, .int .i64 2] 32)) := hb.alloc hb.size _
      have hsz0 : w.heap.size ≤ (wr.alloc (.cells #[.int .i64 r1, .int .i64 2] 32)).heap.size := hb2.size
      have HD := Veil.mk (HIS.out r1 false _ hr1 (HX.out _ hb2))
      have hrow : (wr.alloc (.cells #[.int .i64 r1, .int .i64 2] 32)).ownsRow w.heap.size 32 2 (.slice none 0 0) 0 [] := ⟨rfl, .inl ⟨rfl, rfl⟩⟩
      have HB2 := Veil.mk hb2
      clear bt hb hb2
      go_upto_region 6 with (first | (go_at_call 21; ((with_reducible refine HD.out.mono ?_); rintro e9 w9 ⟨rfl, h9⟩; subst w9)))
      clear HD t0 t1
      have hsz : (wr.alloc (.cells #[.int .i64 r1, .int .i64 2] 32)).heap.size = wr.heap.size + 1 := by simp
      have bq := Box.new wr 32 #[.int .i64 r1, .int .i64 2]
      obtain ⟨pb, hpb⟩ : ∃ pb, wr.heap.size = pb := ⟨_, rfl⟩
      rw [hpb] at hsz bq ⊢
      obtain ⟨w3, hw3⟩ : ∃ w3, wr.alloc (.cells #[.int .i64 r1, .int .i64 2] 32) = w3 := ⟨_, rfl⟩
      rw [hw3] at hrow hsz0 bq HB2 ⊢
      clear hsz
      have q0 : w3.cell? ⟨pb, 0, none⟩ = some (.int .i64 r1) := bq.at_ 0
      have q1 : w3.cell? ⟨pb, 1, none⟩ = some (.int .i64 2) := bq.at_ 1
      clear bq
      go_wp2_with (at_builtin; go_loud (refine wpList_append_lies _ rfl _ _ 28 rfl w.heap.size 32 iP (.agg #[.int .i64 0, .int .i64 0]) 2 16 Try.underlying28 hiP hiP0 hiP1 hiP2 rfl (by decide) _ _ _ rfl (hrow.alloc _) ⟨w3.heap.size, 0, none⟩ 1 1 [.int .i64 r1, .int .i64 2] rfl rfl (news_at _ _ rfl _ _) (by simp [Value.oneCell']) (by decide) (by unfold maxLen; omega) (by omega) (by simp; omega) _ rfl ?_); intro g2 cap2 w5 hown2 hgrow2 hblk2 hg2; refine Hid.out ?_)
      have ht2 : Touch (fun _ => False) (w3.alloc (.cells #[.int .i64 r1, .int .i64 2] 32)) w5 := Touch.of_grown hgrow2 (fun b hb => by
        have hb : (Value.slice none 0 0).ownBlock = some b := hb
        cases hb)
      have hb5 : Below w.heap.size w w5 := (HB2.out.alloc hsz0 _).trans (ht2.below (by simp; omega) (fun _ h => h.elim))
      have HF := Veil.mk (And.intro hb5 hown2)
      clear hb5 ht2 hgrow2 hblk2 hg2 hown2 hrow q0 q1 hw3 HB2 hsz0
      refine Lib.hid ?_
      go_wp2
      go_round
      case rel => exact ⟨2, by omega, by go_num, HF.out.1, .inr ⟨rfl, g2, cap2, rfl, HF.out.2⟩⟩
      case measure => simp [intOf]
    · obtain ⟨h9, -⟩ | ⟨-, g, cap, rfl, ho⟩ := hc
      · omega
      have bn := HNB.out wr hb
      have c1 : wr.cell? ⟨nb, 1, none⟩ = some (.slice (some ⟨tb, 0, none⟩) 2 2) := bn.at_ 1
      have c1f := bn.free 1
      have HF := Veil.mk (And.intro hb (And.intro bn ho))
      clear hb bn ho HNB HTB HX HIS
      go_wp2
      obtain ⟨hb, bn, ho⟩ := HF.out
      have tp : Touch (fun k => k = nb) wr (wr.setCell ⟨nb, 1, none⟩ (.slice (some ⟨g, 0, none⟩) 1 cap)) := Touch.put (S := fun k => k = nb) rfl _ _
      have hg := own_lt ho g rfl
      have hne : g ≠ nb := by have := HNL.out; omega
      have c2 : wr.cell? ⟨g, 1, none⟩ = some (.int .i64 2) := ho.cellAt 1 (by omega)
      exact bodyPost_end (results_none rfl _ _ _) rfl ⟨rfl, g, cap, (Touch.of_below hb).trans tp, bn.put 1 _, hg.1, by rw [World.cell?_setCell_other _ _ _ _ (by intro h; simp only [Addr.mk.injEq] at h; omega)]; exact c2⟩
set_option maxHeartbeats 1000000 in
set_option maxRecDepth 100000 in
theorem clone_one (b c : Nat) (r : Int) (w : World) (h : w.cell? ⟨b, 0, none⟩ = some (.int .i64 r)) : Calls Try.prog 36 #[.slice (some ⟨b, 0, none⟩) 1 c] w fun e w' => ∃ g cap, e = .returned (.slice (some ⟨g, 0, none⟩) 1 cap) ∧ Below w.heap.size w w' ∧ w'.ownsRow w.heap.size 3 1 (.slice (some ⟨g, 0, none⟩) 1 cap) 1 [.int .i64 r] := by
  have q : ∀ (w : World) (a : Option Addr) (n c n' c' : Nat), (binOp .eql 22 (.slice a n c) (.slice none n' c')).run Try.prog w = .ok (.bool a.isNone) w := fun w a n c n' c' => Lib.run_eql_slice_nil w _ _ a n c n' c' Try.underlying22
  obtain ⟨i0, hi, hz0, hz1, hz2⟩ := info_parts Try.infoI
  go_enter Try.func36, Try.ntmps36
  go_upto_region 3 with (fail)
  have hro : (w.alloc (.cells #[] 3)).ownsRow w.heap.size 3 1 (.slice (some ⟨w.heap.size, 0, none⟩) 0 0) 0 [] := ⟨rfl, .inr ⟨w.heap.size, 0, #[], rfl, Nat.le_refl _, Box.new w 3 #[], Nat.le_refl _, Nat.zero_le _, rfl, rfl⟩⟩
  have hlt : b < w.heap.size := World.block_lt_of_cell? w _ h
  have hsrc : ∀ (j : Nat) (u : Value), [Value.int .i64 r][j]? = some u → (w.alloc (.cells #[] 3)).cell? ((⟨b, 0, none⟩ : Addr).add j) = some u := fun j u hj => by
    match j, hj with
    | 0, hj =>
      injection hj with hj
      subst hj
      exact (((Below.refl w.heap.size w).alloc (Nat.le_refl _) _).cell (p := ⟨b, 0, none⟩) hlt).trans h
  have hs0 : w.heap.size ≤ (w.alloc (.cells #[] 3)).heap.size := by rw [World.size_alloc]; omega
  have hb0 : Below w.heap.size w (w.alloc (.cells #[] 3)) := (Below.refl _ _).alloc (Nat.le_refl _) _
  have HH := Veil.mk (And.intro hs0 hb0)
  clear hb0
  go_wp2_with (at_builtin; go_loud (refine wpList_append_lies _ rfl _ _ 22 rfl w.heap.size 3 i0 (.int .i64 0) 1 8 Try.underlying22 hi hz0 hz1 hz2 rfl (by decide) _ _ _ rfl hro ⟨b, 0, none⟩ 1 c [.int .i64 r] rfl rfl hsrc (by simp [Value.oneCell']) (by decide) (by unfold maxLen; omega) (by omega) (by simp) _ rfl ?_); intro g2 cap2 w5 hown2 hgrow2 hblk2 hg2; refine Hid.out ?_)
  have ht2 : Touch (fun b => b = w.heap.size) (w.alloc (.cells #[] 3)) w5 := Touch.of_grown hgrow2 (fun b hb => by
    have hb : (Value.slice (some ⟨w.heap.size, 0, none⟩) 0 0).ownBlock = some b := hb
    injection hb with hb
    exact hb.symm)
  have HF := Veil.mk (And.intro (HH.out.2.trans (ht2.below HH.out.1 (fun k hk => by omega))) hown2)
  clear ht2 hgrow2 hblk2 hg2 hown2 hro hsrc hs0 h
  refine Lib.hid ?_
  go_wp2
  go_ret
  exact ⟨g2, cap2, rfl, HF.out.1, HF.out.2⟩
theorem Touch.drop {S S' : Nat → Prop} {w w' : World} (h : Touch S w w') (hs : ∀ k, k < w.heap.size → S k → S' k) : Touch S' w w' := ⟨h.os, h.tape, h.output, h.size, fun k hk hn => h.block k hk (fun h2 => hn (hs k hk h2))⟩
theorem row_box {w : World} {B g n cap size : Nat} {e : TypeId} {xs : List Value} (h : w.ownsRow B e size (.slice (some ⟨g, 0, none⟩) n cap) n xs) : ∃ cur, Box w g e cur := by
  rcases h.2 with ⟨h1, _⟩ | ⟨g', cap', cur, h1, h2, h3, _⟩
  · cases h1
  · cases h1
    exact ⟨cur, h3⟩
set_option maxHeartbeats 2000000 in
set_option maxRecDepth 100000 in
theorem clear_one (nb fb : Nat) (r : Int) (v0 v1 v3 : Value) (w : World) (h : Box w nb 30 #[v0, v1, .slice (some ⟨fb, 0, none⟩) 1 1, v3]) (ht : w.cell? ⟨fb, 0, none⟩ = some (.int .i64 r)) :
    Calls Try.prog 22 #[.pointer (some ⟨nb, 0, none⟩), .func (.func 23) #[] #[]] w fun e w' => e = .returned (.tuple #[]) ∧ ∃ g cap, Touch (fun k => k = nb) w w' ∧ Box w' nb 30 #[v0, v1, .slice (some ⟨g, 0, none⟩) 1 cap, v3] ∧ w.heap.size ≤ g ∧ w'.cell? ⟨g, 0, none⟩ = some (.int .i64 0) := by
  have c1 : w.cell? ⟨nb, 2, none⟩ = some (.slice (some ⟨fb, 0, none⟩) 1 1) := h.at_ 2
  have HC := Veil.mk (clone_one fb 1 r w ht)
  have HALL : Veil (∀ (k : Int) w, Calls Try.prog 23 #[.int .i64 k] w fun e w' => e = .returned (.bool true) ∧ w' = w) := ⟨all_any⟩
  have HNB := Veil.mk h
  clear h ht
  go_enter Try.func22, Try.ntmps22
  go_upto_region 2 with (first | (go_at_call 36; ((with_reducible refine HC.out.mono ?_); rintro e9 w9 ⟨g, cap, rfl, hb9, ho9⟩; have bn9 := HNB.out.on hb9 HNB.out.lt; have d1 := bn9.at_ 2; have d1f := bn9.free 2)))
  clear d1 d1f c1
  have hgl := own_lt ho9 g rfl
  have hne : g ≠ nb := by have := HNB.out.lt; omega
  obtain ⟨cur, bg⟩ := row_box ho9
  have tp : Touch (fun k => k = nb) w9 (w9.setCell ⟨nb, 2, none⟩ (.slice (some ⟨g, 0, none⟩) 1 cap)) := Touch.put (S := fun k => k = nb) rfl _ _
  have c2 : (w9.setCell ⟨nb, 2, none⟩ (.slice (some ⟨g, 0, none⟩) 1 cap)).cell? ⟨g, 0, none⟩ = some (.int .i64 r) := by
    rw [World.cell?_setCell_other _ _ _ _ (by intro h; simp only [Addr.mk.injEq] at h; omega)]
    exact ho9.cellAt 0 (by omega)
  have bn10 := bn9.put 2 (.slice (some ⟨g, 0, none⟩) 1 cap)
  have bg10 := bg.touch tp hne
  have T10 : Touch (fun k => k = nb) w (w9.setCell ⟨nb, 2, none⟩ (.slice (some ⟨g, 0, none⟩) 1 cap)) := (Touch.of_below hb9).trans tp
  generalize w9.setCell ⟨nb, 2, none⟩ (.slice (some ⟨g, 0, none⟩) 1 cap) = w10 at c2 bn10 bg10 T10 ⊢
  have c1 : w10.cell? ⟨nb, 2, none⟩ = some (.slice (some ⟨g, 0, none⟩) 1 cap) := bn10.at_ 2
  have c2f := bg10.free 0
  have HP := Veil.mk (And.intro T10 (And.intro bn10 (And.intro c2 hgl)))
  clear tp bn10 bg10 T10 bg bn9 hb9 ho9 hgl
  go_upto_region 3 with (fail)
  go_loopw [21] (fun i wr => (i = .int .i64 0 ∧ wr = w10) ∨ (i = .int .i64 1 ∧ wr = w10.setCell ⟨g, 0, none⟩ (.int .i64 0))) (fun i _ => 1 - (intOf i).toNat)
  case atStart => exact .inl ⟨rfl, rfl⟩
  case round =>
    rcases hrel with ⟨rfl, hw⟩ | ⟨rfl, hw⟩
    · rw [hw]
      clear hw
      have HA := Veil.mk (HALL.out r w10)
      go_wp2_with (first | (go_at_call 23; ((with_reducible refine HA.out.mono ?_); rintro e9 w9 ⟨rfl, h9⟩; subst w9)))
      go_round
      case rel => exact .inr ⟨rfl, trivial⟩
      case measure => simp [intOf]
    · rw [hw]
      clear hw
      obtain ⟨T10, bn10, c3, hgl⟩ := HP.out
      clear c1 c2 c2f
      go_wp2
      have tp : Touch (fun k => k = g) w10 (w10.setCell ⟨g, 0, none⟩ (.int .i64 0)) := Touch.put (S := fun k => k = g) rfl _ _
      refine bodyPost_end (results_none rfl _ _ _) rfl ⟨rfl, g, cap, ?_, bn10.touch tp (fun e => hne e.symm), by omega, ?_⟩
      · exact ((T10.mono (S' := fun k => k = nb ∨ k = g) (fun k h => .inl h)).trans (tp.mono (fun k h => .inr h))).drop (fun k hk h => by
          rcases h with h | h
          · exact h
          · omega)
      · exact World.cell?_setCell_same _ _ _ c3
end Go.Proofs.Ytkkbfadfgdjkdaa
