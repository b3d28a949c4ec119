/- Package heap: Find where there is no object to begin with; Define and Put of an array. -/
import Derived.Test.YtbeapojjbgkalaaDoorHf
import Derived.Test.YtbeapojjbgkalaaDoorMe
namespace Go.Proofs.YtbeapojjbgkalaaDoor
open Go Go.RowKit
attribute [local go_sem] Oper.semAt_some

set_option maxRecDepth 100000 in
set_option maxHeartbeats 2000000 in
theorem chain0_stops (n : Nat) (hn : 2 ≤ n) {B h A : Nat} {cv fv rv : Value} {d : AD} (hb rb : Nat) (hc : 0 < d.count) (W : World) (H : HpAt W B h A cv fv rv d) (bh : Box W hb 24 #[.pointer (some ⟨h, 0, none⟩)]) (br : Box W rb 3 #[.int .i64 0]) :
    TabStops n Tryd.prog 68 #[.pointer (some ⟨hb, 0, none⟩), .pointer (some ⟨rb, 0, none⟩)] (fun x : Nat × Nat => #[.int .i64 (x.1 : Int), .pointer (some ⟨x.2, 0, none⟩)]) (fun k => k = rb) (fun _ => False) (fun xs => xs = []) (fun _ => False) (fun _ => True) W := by
  intro l J Jx hJ hJx hY h0
  have hn1 : 1 ≤ n := by omega
  have hn2 : 1 ≤ n - 1 := by omega
  have c0 : W.cell? ⟨hb, 0, none⟩ = some (.pointer (some ⟨h, 0, none⟩)) := bh.at_ 0
  have d0 : W.cell? ⟨h, 0, none⟩ = some (.pointer (some ⟨A, 0, none⟩)) := H.hb.at_ 0
  have r0 : W.cell? ⟨rb, 0, none⟩ = some (.int .i64 0) := br.at_ 0
  have HC := Veil.mk (count_any B A cv fv rv _ W H.ar)
  have HO := Veil.mk (obj_none H 0 (get_zero _))
  have HJJ := Veil.mk h0
  have hc0 : (0 : Int) < (d.count : Int) := by omega
  clear H bh br hJ hJx h0 hY
  refine callsIn_of_wp Tryd.func68 rfl trivial ?_ rfl
  simp only [Tryd.ntmps68, List.size_toArray, List.length_cons, List.length_nil, Nat.reduceAdd, Nat.reduceSub, Array.replicate_succ, Array.replicate_zero, List.push_toArray, List.append_toArray, List.nil_append, List.cons_append]
  gi_wp2_with (first | (refine ⟨trivial, ?_⟩; gi_at_call 14; refine (callsIn_wide.2 HC.out).mono ?_; rintro e w1 ⟨rfl, h1⟩; subst w1))
  gi_loopw [12] (fun i wr => i = .int .i64 0 ∧ wr = W) (fun _ _ => 0)
  case atStart => exact ⟨rfl, rfl⟩
  case round =>
    obtain ⟨rfl, rfl⟩ := hrel
    gi_wp2_with (first | (refine ⟨trivial, ?_⟩; gi_at_call 15; refine (callsIn_wide.2 HO.out).mono ?_; rintro e w1 ⟨rfl, h1⟩; subst w1))
    refine ⟨fun _ h => (by cases h), ?_⟩
    gi_wp2
    refine bodyPost_ret (results_none rfl _ _ _) rfl ?_
    exact ⟨⟨_, rfl⟩, trivial, .inl ⟨_, rfl, HJJ.out⟩⟩
set_option maxHeartbeats 4000000 in
set_option maxRecDepth 100000 in
theorem find_zero {w : World} {B h A o : Nat} {cv fv rv : Value} (H : HpAt w B h A cv fv rv ⟨[objB o], [], 1, []⟩) (k : Vt) :
    Calls Tryd.prog 26 #[.pointer (some ⟨h, 0, none⟩), .int .i64 0, valV k] w fun e w' => e = .returned (.tuple #[zeroV, .int .i64 0, .bool false]) ∧ Below w.heap.size w w' := by
  obtain ⟨N, hN⟩ : ∃ N, w.heap.size = N := ⟨_, rfl⟩
  have b5 := (((Box.new w 45 #[.int .i64 k.1, .int .i64 k.2.1, .string k.2.2]).more (.cells #[.int .i64 0, .int .i64 0, .string ⟨#[]⟩] 45)).more (.cells #[.int .i64 0] 3)).more (.cells #[.bool false] 4)
  have b6 := ((Box.new (w.alloc (.cells #[.int .i64 k.1, .int .i64 k.2.1, .string k.2.2] 45)) 45 #[.int .i64 0, .int .i64 0, .string ⟨#[]⟩]).more (.cells #[.int .i64 0] 3)).more (.cells #[.bool false] 4)
  have b7 := (Box.new ((w.alloc (.cells #[.int .i64 k.1, .int .i64 k.2.1, .string k.2.2] 45)).alloc (.cells #[.int .i64 0, .int .i64 0, .string ⟨#[]⟩] 45)) 3 #[.int .i64 0]).more (.cells #[.bool false] 4)
  have b8 := Box.new (((w.alloc (.cells #[.int .i64 k.1, .int .i64 k.2.1, .string k.2.2] 45)).alloc (.cells #[.int .i64 0, .int .i64 0, .string ⟨#[]⟩] 45)).alloc (.cells #[.int .i64 0] 3)) 4 #[.bool false]
  have bb : Below w.heap.size w ((((w.alloc (.cells #[.int .i64 k.1, .int .i64 k.2.1, .string k.2.2] 45)).alloc (.cells #[.int .i64 0, .int .i64 0, .string ⟨#[]⟩] 45)).alloc (.cells #[.int .i64 0] 3)).alloc (.cells #[.bool false] 4)) := ((((Below.refl _ _).alloc (Nat.le_refl _) _).alloc (by simp) _).alloc (by simp; omega) _).alloc (by simp; omega) _
  rw [World.size_alloc] at b6
  rw [World.size_alloc, World.size_alloc] at b7
  rw [World.size_alloc, World.size_alloc, World.size_alloc] at b8
  obtain ⟨W0, hW0⟩ : ∃ W0, ((((w.alloc (.cells #[.int .i64 k.1, .int .i64 k.2.1, .string k.2.2] 45)).alloc (.cells #[.int .i64 0, .int .i64 0, .string ⟨#[]⟩] 45)).alloc (.cells #[.int .i64 0] 3)).alloc (.cells #[.bool false] 4)) = W0 := ⟨_, rfl⟩
  rw [hW0] at b5 b6 b7 b8 bb
  rw [hN] at b5 b6 b7 b8 bb ⊢
  have HW0 := Veil.mk (And.intro hW0 hN)
  have hF0 : FI w N N (N + 1) (N + 1 + 1) (N + 1 + 1 + 1) k (0, 0, ⟨#[]⟩) 0 false W0 := ⟨bb, b5, b6, b7, b8⟩
  have HCH := Veil.mk (chain_any 0 (some ⟨h, 0, none⟩) W0)
  have hsz0 := b8.lt
  have HF0 := Veil.mk (And.intro hF0 hsz0)
  have HON : Veil (∀ W, Below N w W → HpAt W B h A cv fv rv ⟨[objB o], [], 1, []⟩) := ⟨fun W hb => by rw [← hN] at hb; exact ⟨H.hb.below hb, H.ar.on hb, H.hB⟩⟩
  clear H b5 b6 b7 b8 bb hW0 hN hF0 hsz0
  refine (callsIn_wide (n := 6)).1 (callsIn_of_wp_marks Tryd.func26 rfl trivial (wpIn_wide.2 ?_) rfl)
  simp only [Tryd.ntmps26, List.size_toArray, List.length_cons, List.length_nil, Nat.reduceAdd, Nat.reduceSub, Array.replicate_succ, Array.replicate_zero, List.push_toArray, List.append_toArray, List.nil_append, List.cons_append]
  go_upto_region 1 with (fail)
  rw [HW0.out.1, HW0.out.2]
  go_wp2_with (first | (go_at_call 51; ((with_reducible refine HCH.out.mono ?_); rintro e w2 ⟨rfl, bh, br, hb2⟩)))
  obtain ⟨hF0, hsz0⟩ := HF0.out
  obtain ⟨hb, hhb⟩ : ∃ hb, W0.heap.size = hb := ⟨_, rfl⟩
  have hF2 := hF0.touch (S := fun _ => False) (by omega) (Touch.of_below hb2) (fun _ h => h.elim) (fun h => h) (fun h => h) (fun h => h) (fun h => h)
  rw [hhb] at bh br hb2 ⊢
  have hl1 := bh.lt
  have hl2 := br.lt
  refine wpIn_wide.1 (wpIn_rangeFunc_tab (n := 6) (by omega) (gf := 68) (lb := #[.pointer (some ⟨hb, 0, none⟩), .pointer (some ⟨hb + 1, 0, none⟩)]) rfl (enters_of Tryd.func68 (by kernel_rfl) rfl) (encs := fun x : Nat × Nat => #[.int .i64 (x.1 : Int), .pointer (some ⟨x.2, 0, none⟩)]) (F := fun j => j = hb + 1) (G := fun _ => False) (S := fun xs => xs = []) (Sp := fun _ => False) (Pt := fun _ => True) (fun j hj => by omega) ?hseq
    (fun _ _ _ _ h _ _ => h) (fun _ => rfl) (fun _ => False) (fun j hj => hj.elim) (fun j hj => hj.elim) (fun pre W => FI w N N (N + 1) (N + 1 + 1) (N + 1 + 1 + 1) k (0, 0, ⟨#[]⟩) 0 false W ∧ w2.heap.size ≤ W.heap.size) (fun _ _ _ => False)
    ?hI (fun _ _ _ _ h _ => h.elim) ⟨hF2, Nat.le_refl _⟩ AxH (fun _ _ _ _ _ h _ _ => h) ?assign (fun _ _ _ _ _ _ _ h => h.elim) ?done (fun _ _ _ _ _ h => h.elim))
  case hseq =>
    intro W hbW
    exact chain0_stops 5 (by omega) hb (hb + 1) (by show 0 < 1; omega) W (HON.out W (hF2.bel.trans (hbW.mono (by omega)))) (bh.on hbW bh.lt) (br.on hbW br.lt)
  case hI =>
    rintro pre A' B' ⟨h1, h2⟩ ht
    exact ⟨h1.touch (by omega) ht (fun j hj => by omega) (by omega) (by omega) (by omega) (by omega), by have := ht.size; omega⟩
  case assign =>
    intro l pre x W K hI hK
    gi_wp2
    exact hK _ _ (Touch.refl _ _) hI rfl
  case done =>
    rintro D xs W hD - ⟨hF, hsz⟩ - hK
    have p6 : W.cell? ⟨N + 1, 0, none⟩ = some (.int .i64 0) := hF.r6.at_ 0
    have p61 : W.cell? ⟨N + 1, 1, none⟩ = some (.int .i64 0) := hF.r6.at_ 1
    have p62 : W.cell? ⟨N + 1, 2, none⟩ = some (.string ⟨#[]⟩) := hF.r6.at_ 2
    have p7 : W.cell? ⟨N + 1 + 1, 0, none⟩ = some (.int .i64 0) := hF.r7.at_ 0
    have p8 : W.cell? ⟨N + 1 + 1 + 1, 0, none⟩ = some (.bool false) := hF.r8.at_ 0
    have q6 := hF.r6.free 0
    have q61 := hF.r6.free 1
    have q62 := hF.r6.free 2
    have q7 := hF.r7.free 0
    have q8 := hF.r8.free 0
    have HFIN := Veil.mk (And.intro hF (And.intro hsz hK))
    clear hF hsz hK hb2 bh br hF0 hF2
    go_wp2
    obtain ⟨hF, hsz, hK⟩ := HFIN.out
    obtain ⟨d1, d2⟩ := hF.done (by omega) (by omega) (by omega) (by omega) (0, 0, ⟨#[]⟩) 0 false
    exact fin_find d1 rfl rfl rfl ((d2.block D (Array.getElem?_eq_some_iff.1 hK).1 (by omega)).trans hK) (by omega) (Nat.le_trans (by omega) d2.size)
end Go.Proofs.YtbeapojjbgkalaaDoor
namespace Go.Proofs.YtbeapojjbgkalaaDoor
open Go Go.RowKit

theorem len13 {α : Type} {us : List α} (h : us.length = 13) : ∃ a0 a1 a2 a3 a4 a5 a6 a7 a8 a9 a10 a11 a12, us = [a0, a1, a2, a3, a4, a5, a6, a7, a8, a9, a10, a11, a12] := by
  match us, h with
  | [a0, a1, a2, a3, a4, a5, a6, a7, a8, a9, a10, a11, a12], _ => exact ⟨a0, a1, a2, a3, a4, a5, a6, a7, a8, a9, a10, a11, a12, rfl⟩
set_option maxHeartbeats 2000000 in
set_option maxRecDepth 100000 in
theorem define_len {w : World} {o : Nat} {proto : Int} {ev : Value} (hbx : Box w o 38 (objC 1 proto false (.pointer none) ev)) (k v v0 : Vt) (res : Bool) (P : World → World → Prop) (hP : ∀ W w', Below w.heap.size w W → P W w' → P w w') (HOW : ∀ W, Below w.heap.size w W → Calls Tryd.prog 23 #[.pointer (some ⟨o, 0, none⟩), valV k] W fun e w' => e = .returned (.tuple #[valV v0, .int .i64 1, .bool true]) ∧ Below W.heap.size W w')
    (HIL : ∀ W, Below w.heap.size w W → Calls Tryd.prog 46 #[.pointer (some ⟨o, 0, none⟩), valV k] W fun e w' => e = .returned (.bool true) ∧ Below W.heap.size W w')
    (HST : ∀ W, Below w.heap.size w W → Calls Tryd.prog 49 #[.pointer (some ⟨o, 0, none⟩), valV v, .int .i64 1] W fun e w' => e = .returned (.bool res) ∧ P W w') :
    Calls Tryd.prog 25 #[.pointer (some ⟨o, 0, none⟩), valV k, valV v, .int .i64 1] w fun e w' => e = .returned (.bool res) ∧ P w w' := by
  obtain ⟨kb, hkb⟩ : ∃ kb, w.heap.size = kb := ⟨_, rfl⟩
  obtain ⟨vb, hvb⟩ : ∃ vb, kb + 1 = vb := ⟨_, rfl⟩
  have b1 := (Box.new w 45 #[.int .i64 k.1, .int .i64 k.2.1, .string k.2.2]).more (.cells #[.int .i64 v.1, .int .i64 v.2.1, .string v.2.2] 45)
  have b2 := Box.new (w.alloc (.cells #[.int .i64 k.1, .int .i64 k.2.1, .string k.2.2] 45)) 45 #[.int .i64 v.1, .int .i64 v.2.1, .string v.2.2]
  have bb : Below w.heap.size w ((w.alloc (.cells #[.int .i64 k.1, .int .i64 k.2.1, .string k.2.2] 45)).alloc (.cells #[.int .i64 v.1, .int .i64 v.2.1, .string v.2.2] 45)) := ((Below.refl _ _).alloc (Nat.le_refl _) _).alloc (by simp) _
  rw [World.size_alloc] at b2
  obtain ⟨W0, hW0⟩ : ∃ W0, ((w.alloc (.cells #[.int .i64 k.1, .int .i64 k.2.1, .string k.2.2] 45)).alloc (.cells #[.int .i64 v.1, .int .i64 v.2.1, .string v.2.2] 45)) = W0 := ⟨_, rfl⟩
  rw [hW0] at b1 b2 bb
  have HW0 := Veil.mk (And.intro hW0 (And.intro hkb hvb))
  rw [hkb] at b1 b2
  rw [hvb] at b2
  have HB0 := Veil.mk (And.intro bb (And.intro b1 b2))
  have x0 : W0.cell? ⟨kb, 0, none⟩ = some (.int .i64 k.1) := b1.at_ 0
  have x1 : W0.cell? ⟨kb, 1, none⟩ = some (.int .i64 k.2.1) := b1.at_ 1
  have x2 : W0.cell? ⟨kb, 2, none⟩ = some (.string k.2.2) := b1.at_ 2
  have HOW := Veil.mk HOW
  have HIL := Veil.mk HIL
  skip
  have HST := Veil.mk HST
  have HP := Veil.mk hP
  have HBX := Veil.mk hbx
  clear hbx b1 b2 bb hW0 hkb hvb hP
  go_enter Tryd.func25, Tryd.ntmps25
  go_upto_region 1 with (fail)
  rw [HW0.out.1, HW0.out.2.1, HW0.out.2.2]
  go_upto_region 4 with (go_at_call 23; ((with_reducible refine (HOW.out _ HB0.out.1).mono ?_); rintro e w1 ⟨rfl, hb1⟩))
  have hal : Below w1.heap.size w1 (w1.alloc (.cells #[.int .i64 v0.1, .int .i64 v0.2.1, .string v0.2.2] 45)) := (Below.refl _ _).alloc (Nat.le_refl _) _
  obtain ⟨W2, hW2⟩ : ∃ W2, w1.alloc (.cells #[.int .i64 v0.1, .int .i64 v0.2.1, .string v0.2.2] 45) = W2 := ⟨_, rfl⟩
  rw [hW2] at hal ⊢
  have HB2 : Veil (Below w.heap.size w W2) := ⟨blw2 (blw2 HB0.out.1 hb1) hal⟩
  have HQ2 := Veil.mk (And.intro ((HB0.out.2.1.below hb1).below hal) ((HB0.out.2.2.below hb1).below hal))
  clear x0 x1 x2 hb1 hal hW2 HOW
  have x0 : W2.cell? ⟨kb, 0, none⟩ = some (.int .i64 k.1) := HQ2.out.1.at_ 0
  have x1 : W2.cell? ⟨kb, 1, none⟩ = some (.int .i64 k.2.1) := HQ2.out.1.at_ 1
  have x2 : W2.cell? ⟨kb, 2, none⟩ = some (.string k.2.2) := HQ2.out.1.at_ 2
  have y0 : W2.cell? ⟨vb, 0, none⟩ = some (.int .i64 v.1) := HQ2.out.2.at_ 0
  have y1 : W2.cell? ⟨vb, 1, none⟩ = some (.int .i64 v.2.1) := HQ2.out.2.at_ 1
  have y2 : W2.cell? ⟨vb, 2, none⟩ = some (.string v.2.2) := HQ2.out.2.at_ 2
  go_upto_region 9 with (go_at_call 46; ((with_reducible refine (HIL.out _ HB2.out).mono ?_); rintro e w3 ⟨rfl, hb3⟩))
  have HB3 : Veil (Below w.heap.size w w3) := ⟨blw2 HB2.out hb3⟩
  have q3 := And.intro (HQ2.out.1.below hb3) (HQ2.out.2.below hb3)
  clear x0 x1 x2 y0 y1 y2 hb3 HIL
  have x0 : w3.cell? ⟨kb, 0, none⟩ = some (.int .i64 k.1) := q3.1.at_ 0
  have x1 : w3.cell? ⟨kb, 1, none⟩ = some (.int .i64 k.2.1) := q3.1.at_ 1
  have x2 : w3.cell? ⟨kb, 2, none⟩ = some (.string k.2.2) := q3.1.at_ 2
  have y0 : w3.cell? ⟨vb, 0, none⟩ = some (.int .i64 v.1) := q3.2.at_ 0
  have y1 : w3.cell? ⟨vb, 1, none⟩ = some (.int .i64 v.2.1) := q3.2.at_ 1
  have y2 : w3.cell? ⟨vb, 2, none⟩ = some (.string v.2.2) := q3.2.at_ 2
  clear q3
  go_wp2_with (go_at_call 49; ((with_reducible refine (HST.out _ HB3.out).mono ?_); rintro e w4 ⟨rfl, hp4⟩))
  go_ret
  exact ⟨rfl, HP.out _ _ HB3.out hp4⟩
set_option maxHeartbeats 2000000 in
set_option maxRecDepth 100000 in
theorem define_el {w : World} {o : Nat} {proto : Int} {ev : Value} (hbx : Box w o 38 (objC 1 proto false (.pointer none) ev)) (k v v0 : Vt) (i : Nat) (res : Bool) (P : World → World → Prop) (hP : ∀ W w', Below w.heap.size w W → P W w' → P w w') (HOW : ∀ W, Below w.heap.size w W → Calls Tryd.prog 23 #[.pointer (some ⟨o, 0, none⟩), valV k] W fun e w' => e = .returned (.tuple #[valV v0, .int .i64 7, .bool true]) ∧ Below W.heap.size W w')
    (HIL : ∀ W, Below w.heap.size w W → Calls Tryd.prog 46 #[.pointer (some ⟨o, 0, none⟩), valV k] W fun e w' => e = .returned (.bool false) ∧ Below W.heap.size W w')
    (HEM : ∀ W, Below w.heap.size w W → Calls Tryd.prog 48 #[.pointer (some ⟨o, 0, none⟩), valV k] W fun e w' => e = .returned (.int .i64 (i : Int)) ∧ Below W.heap.size W w')
    (HST : ∀ W, Below w.heap.size w W → Calls Tryd.prog 50 #[.pointer (some ⟨o, 0, none⟩), .int .i64 (i : Int), valV v, .int .i64 7] W fun e w' => e = .returned (.bool res) ∧ P W w') :
    Calls Tryd.prog 25 #[.pointer (some ⟨o, 0, none⟩), valV k, valV v, .int .i64 7] w fun e w' => e = .returned (.bool res) ∧ P w w' := by
  obtain ⟨kb, hkb⟩ : ∃ kb, w.heap.size = kb := ⟨_, rfl⟩
  obtain ⟨vb, hvb⟩ : ∃ vb, kb + 1 = vb := ⟨_, rfl⟩
  have b1 := (Box.new w 45 #[.int .i64 k.1, .int .i64 k.2.1, .string k.2.2]).more (.cells #[.int .i64 v.1, .int .i64 v.2.1, .string v.2.2] 45)
  have b2 := Box.new (w.alloc (.cells #[.int .i64 k.1, .int .i64 k.2.1, .string k.2.2] 45)) 45 #[.int .i64 v.1, .int .i64 v.2.1, .string v.2.2]
  have bb : Below w.heap.size w ((w.alloc (.cells #[.int .i64 k.1, .int .i64 k.2.1, .string k.2.2] 45)).alloc (.cells #[.int .i64 v.1, .int .i64 v.2.1, .string v.2.2] 45)) := ((Below.refl _ _).alloc (Nat.le_refl _) _).alloc (by simp) _
  rw [World.size_alloc] at b2
  obtain ⟨W0, hW0⟩ : ∃ W0, ((w.alloc (.cells #[.int .i64 k.1, .int .i64 k.2.1, .string k.2.2] 45)).alloc (.cells #[.int .i64 v.1, .int .i64 v.2.1, .string v.2.2] 45)) = W0 := ⟨_, rfl⟩
  rw [hW0] at b1 b2 bb
  have HW0 := Veil.mk (And.intro hW0 (And.intro hkb hvb))
  rw [hkb] at b1 b2
  rw [hvb] at b2
  have HB0 := Veil.mk (And.intro bb (And.intro b1 b2))
  have x0 : W0.cell? ⟨kb, 0, none⟩ = some (.int .i64 k.1) := b1.at_ 0
  have x1 : W0.cell? ⟨kb, 1, none⟩ = some (.int .i64 k.2.1) := b1.at_ 1
  have x2 : W0.cell? ⟨kb, 2, none⟩ = some (.string k.2.2) := b1.at_ 2
  have HOW := Veil.mk HOW
  have HIL := Veil.mk HIL
  have HEM := Veil.mk HEM
  have HST := Veil.mk HST
  have HP := Veil.mk hP
  have HBX := Veil.mk hbx
  clear hbx b1 b2 bb hW0 hkb hvb hP
  go_enter Tryd.func25, Tryd.ntmps25
  go_upto_region 1 with (fail)
  rw [HW0.out.1, HW0.out.2.1, HW0.out.2.2]
  go_upto_region 4 with (go_at_call 23; ((with_reducible refine (HOW.out _ HB0.out.1).mono ?_); rintro e w1 ⟨rfl, hb1⟩))
  have hal : Below w1.heap.size w1 (w1.alloc (.cells #[.int .i64 v0.1, .int .i64 v0.2.1, .string v0.2.2] 45)) := (Below.refl _ _).alloc (Nat.le_refl _) _
  obtain ⟨W2, hW2⟩ : ∃ W2, w1.alloc (.cells #[.int .i64 v0.1, .int .i64 v0.2.1, .string v0.2.2] 45) = W2 := ⟨_, rfl⟩
  rw [hW2] at hal ⊢
  have HB2 : Veil (Below w.heap.size w W2) := ⟨blw2 (blw2 HB0.out.1 hb1) hal⟩
  have HQ2 := Veil.mk (And.intro ((HB0.out.2.1.below hb1).below hal) ((HB0.out.2.2.below hb1).below hal))
  clear x0 x1 x2 hb1 hal hW2 HOW
  have x0 : W2.cell? ⟨kb, 0, none⟩ = some (.int .i64 k.1) := HQ2.out.1.at_ 0
  have x1 : W2.cell? ⟨kb, 1, none⟩ = some (.int .i64 k.2.1) := HQ2.out.1.at_ 1
  have x2 : W2.cell? ⟨kb, 2, none⟩ = some (.string k.2.2) := HQ2.out.1.at_ 2
  have y0 : W2.cell? ⟨vb, 0, none⟩ = some (.int .i64 v.1) := HQ2.out.2.at_ 0
  have y1 : W2.cell? ⟨vb, 1, none⟩ = some (.int .i64 v.2.1) := HQ2.out.2.at_ 1
  have y2 : W2.cell? ⟨vb, 2, none⟩ = some (.string v.2.2) := HQ2.out.2.at_ 2
  go_upto_region 10 with (go_at_call 46; ((with_reducible refine (HIL.out _ HB2.out).mono ?_); rintro e w3 ⟨rfl, hb3⟩))
  have HB3 : Veil (Below w.heap.size w w3) := ⟨blw2 HB2.out hb3⟩
  have HQ3 := Veil.mk (And.intro (HQ2.out.1.below hb3) (HQ2.out.2.below hb3))
  clear x0 x1 x2 y0 y1 y2 hb3 HIL 
  have x0 : w3.cell? ⟨kb, 0, none⟩ = some (.int .i64 k.1) := HQ3.out.1.at_ 0
  have x1 : w3.cell? ⟨kb, 1, none⟩ = some (.int .i64 k.2.1) := HQ3.out.1.at_ 1
  have x2 : w3.cell? ⟨kb, 2, none⟩ = some (.string k.2.2) := HQ3.out.1.at_ 2
  have y0 : w3.cell? ⟨vb, 0, none⟩ = some (.int .i64 v.1) := HQ3.out.2.at_ 0
  have y1 : w3.cell? ⟨vb, 1, none⟩ = some (.int .i64 v.2.1) := HQ3.out.2.at_ 1
  have y2 : w3.cell? ⟨vb, 2, none⟩ = some (.string v.2.2) := HQ3.out.2.at_ 2
  have hi0 : (0 : Int) ≤ (i : Int) := by omega
  go_upto_region 12 with (go_at_call 48; ((with_reducible refine (HEM.out _ HB3.out).mono ?_); rintro e w5 ⟨rfl, hb5⟩))
  have HB5 : Veil (Below w.heap.size w w5) := ⟨blw2 HB3.out hb5⟩
  have q5 := And.intro (HQ3.out.1.below hb5) (HQ3.out.2.below hb5)
  clear x0 x1 x2 y0 y1 y2 hb5 HEM
  have x0 : w5.cell? ⟨kb, 0, none⟩ = some (.int .i64 k.1) := q5.1.at_ 0
  have x1 : w5.cell? ⟨kb, 1, none⟩ = some (.int .i64 k.2.1) := q5.1.at_ 1
  have x2 : w5.cell? ⟨kb, 2, none⟩ = some (.string k.2.2) := q5.1.at_ 2
  have y0 : w5.cell? ⟨vb, 0, none⟩ = some (.int .i64 v.1) := q5.2.at_ 0
  have y1 : w5.cell? ⟨vb, 1, none⟩ = some (.int .i64 v.2.1) := q5.2.at_ 1
  have y2 : w5.cell? ⟨vb, 2, none⟩ = some (.string v.2.2) := q5.2.at_ 2
  clear q5
  go_wp2_with (go_at_call 50; ((with_reducible refine (HST.out _ HB5.out).mono ?_); rintro e w4 ⟨rfl, hp4⟩))
  go_ret
  exact ⟨rfl, HP.out _ _ HB5.out hp4⟩
set_option maxHeartbeats 2000000 in
set_option maxRecDepth 100000 in
theorem define_eln {w : World} {o : Nat} {proto : Int} {ev : Value} (hbx : Box w o 38 (objC 1 proto false (.pointer none) ev)) (k v v0 : Vt) (i : Nat) (res : Bool) (P : World → World → Prop) (hP : ∀ W w', Below w.heap.size w W → P W w' → P w w') (HOW : ∀ W, Below w.heap.size w W → Calls Tryd.prog 23 #[.pointer (some ⟨o, 0, none⟩), valV k] W fun e w' => e = .returned (.tuple #[valV v0, .int .i64 0, .bool false]) ∧ Below W.heap.size W w')
    (HIL : ∀ W, Below w.heap.size w W → Calls Tryd.prog 46 #[.pointer (some ⟨o, 0, none⟩), valV k] W fun e w' => e = .returned (.bool false) ∧ Below W.heap.size W w')
    (HEM : ∀ W, Below w.heap.size w W → Calls Tryd.prog 48 #[.pointer (some ⟨o, 0, none⟩), valV k] W fun e w' => e = .returned (.int .i64 (i : Int)) ∧ Below W.heap.size W w')
    (HST : ∀ W, Below w.heap.size w W → Calls Tryd.prog 50 #[.pointer (some ⟨o, 0, none⟩), .int .i64 (i : Int), valV v, .int .i64 7] W fun e w' => e = .returned (.bool res) ∧ P W w') :
    Calls Tryd.prog 25 #[.pointer (some ⟨o, 0, none⟩), valV k, valV v, .int .i64 7] w fun e w' => e = .returned (.bool res) ∧ P w w' := by
  obtain ⟨kb, hkb⟩ : ∃ kb, w.heap.size = kb := ⟨_, rfl⟩
  obtain ⟨vb, hvb⟩ : ∃ vb, kb + 1 = vb := ⟨_, rfl⟩
  have b1 := (Box.new w 45 #[.int .i64 k.1, .int .i64 k.2.1, .string k.2.2]).more (.cells #[.int .i64 v.1, .int .i64 v.2.1, .string v.2.2] 45)
  have b2 := Box.new (w.alloc (.cells #[.int .i64 k.1, .int .i64 k.2.1, .string k.2.2] 45)) 45 #[.int .i64 v.1, .int .i64 v.2.1, .string v.2.2]
  have bb : Below w.heap.size w ((w.alloc (.cells #[.int .i64 k.1, .int .i64 k.2.1, .string k.2.2] 45)).alloc (.cells #[.int .i64 v.1, .int .i64 v.2.1, .string v.2.2] 45)) := ((Below.refl _ _).alloc (Nat.le_refl _) _).alloc (by simp) _
  rw [World.size_alloc] at b2
  obtain ⟨W0, hW0⟩ : ∃ W0, ((w.alloc (.cells #[.int .i64 k.1, .int .i64 k.2.1, .string k.2.2] 45)).alloc (.cells #[.int .i64 v.1, .int .i64 v.2.1, .string v.2.2] 45)) = W0 := ⟨_, rfl⟩
  rw [hW0] at b1 b2 bb
  have HW0 := Veil.mk (And.intro hW0 (And.intro hkb hvb))
  rw [hkb] at b1 b2
  rw [hvb] at b2
  have HB0 := Veil.mk (And.intro bb (And.intro b1 b2))
  have x0 : W0.cell? ⟨kb, 0, none⟩ = some (.int .i64 k.1) := b1.at_ 0
  have x1 : W0.cell? ⟨kb, 1, none⟩ = some (.int .i64 k.2.1) := b1.at_ 1
  have x2 : W0.cell? ⟨kb, 2, none⟩ = some (.string k.2.2) := b1.at_ 2
  have HOW := Veil.mk HOW
  have HIL := Veil.mk HIL
  have HEM := Veil.mk HEM
  have HST := Veil.mk HST
  have HP := Veil.mk hP
  have HBX := Veil.mk hbx
  clear hbx b1 b2 bb hW0 hkb hvb hP
  go_enter Tryd.func25, Tryd.ntmps25
  go_upto_region 1 with (fail)
  rw [HW0.out.1, HW0.out.2.1, HW0.out.2.2]
  go_upto_region 4 with (go_at_call 23; ((with_reducible refine (HOW.out _ HB0.out.1).mono ?_); rintro e w1 ⟨rfl, hb1⟩))
  have hal : Below w1.heap.size w1 (w1.alloc (.cells #[.int .i64 v0.1, .int .i64 v0.2.1, .string v0.2.2] 45)) := (Below.refl _ _).alloc (Nat.le_refl _) _
  obtain ⟨W2, hW2⟩ : ∃ W2, w1.alloc (.cells #[.int .i64 v0.1, .int .i64 v0.2.1, .string v0.2.2] 45) = W2 := ⟨_, rfl⟩
  rw [hW2] at hal ⊢
  have HB2 : Veil (Below w.heap.size w W2) := ⟨blw2 (blw2 HB0.out.1 hb1) hal⟩
  have HQ2 := Veil.mk (And.intro ((HB0.out.2.1.below hb1).below hal) ((HB0.out.2.2.below hb1).below hal))
  clear x0 x1 x2 hb1 hal hW2 HOW
  have x0 : W2.cell? ⟨kb, 0, none⟩ = some (.int .i64 k.1) := HQ2.out.1.at_ 0
  have x1 : W2.cell? ⟨kb, 1, none⟩ = some (.int .i64 k.2.1) := HQ2.out.1.at_ 1
  have x2 : W2.cell? ⟨kb, 2, none⟩ = some (.string k.2.2) := HQ2.out.1.at_ 2
  have y0 : W2.cell? ⟨vb, 0, none⟩ = some (.int .i64 v.1) := HQ2.out.2.at_ 0
  have y1 : W2.cell? ⟨vb, 1, none⟩ = some (.int .i64 v.2.1) := HQ2.out.2.at_ 1
  have y2 : W2.cell? ⟨vb, 2, none⟩ = some (.string v.2.2) := HQ2.out.2.at_ 2
  have o2 : W2.cell? ⟨o, 2, none⟩ = some (.bool false) := (HBX.out.below HB2.out).at_ 2
  go_upto_region 10 with (go_at_call 46; ((with_reducible refine (HIL.out _ HB2.out).mono ?_); rintro e w3 ⟨rfl, hb3⟩))
  have HB3 : Veil (Below w.heap.size w w3) := ⟨blw2 HB2.out hb3⟩
  have HQ3 := Veil.mk (And.intro (HQ2.out.1.below hb3) (HQ2.out.2.below hb3))
  clear x0 x1 x2 y0 y1 y2 hb3 HIL o2
  have x0 : w3.cell? ⟨kb, 0, none⟩ = some (.int .i64 k.1) := HQ3.out.1.at_ 0
  have x1 : w3.cell? ⟨kb, 1, none⟩ = some (.int .i64 k.2.1) := HQ3.out.1.at_ 1
  have x2 : w3.cell? ⟨kb, 2, none⟩ = some (.string k.2.2) := HQ3.out.1.at_ 2
  have y0 : w3.cell? ⟨vb, 0, none⟩ = some (.int .i64 v.1) := HQ3.out.2.at_ 0
  have y1 : w3.cell? ⟨vb, 1, none⟩ = some (.int .i64 v.2.1) := HQ3.out.2.at_ 1
  have y2 : w3.cell? ⟨vb, 2, none⟩ = some (.string v.2.2) := HQ3.out.2.at_ 2
  have hi0 : (0 : Int) ≤ (i : Int) := by omega
  go_upto_region 12 with (go_at_call 48; ((with_reducible refine (HEM.out _ HB3.out).mono ?_); rintro e w5 ⟨rfl, hb5⟩))
  have HB5 : Veil (Below w.heap.size w w5) := ⟨blw2 HB3.out hb5⟩
  have q5 := And.intro (HQ3.out.1.below hb5) (HQ3.out.2.below hb5)
  clear x0 x1 x2 y0 y1 y2 hb5 HEM
  have x0 : w5.cell? ⟨kb, 0, none⟩ = some (.int .i64 k.1) := q5.1.at_ 0
  have x1 : w5.cell? ⟨kb, 1, none⟩ = some (.int .i64 k.2.1) := q5.1.at_ 1
  have x2 : w5.cell? ⟨kb, 2, none⟩ = some (.string k.2.2) := q5.1.at_ 2
  have y0 : w5.cell? ⟨vb, 0, none⟩ = some (.int .i64 v.1) := q5.2.at_ 0
  have y1 : w5.cell? ⟨vb, 1, none⟩ = some (.int .i64 v.2.1) := q5.2.at_ 1
  have y2 : w5.cell? ⟨vb, 2, none⟩ = some (.string v.2.2) := q5.2.at_ 2
  clear q5
  go_wp2_with (go_at_call 50; ((with_reducible refine (HST.out _ HB5.out).mono ?_); rintro e w4 ⟨rfl, hp4⟩))
  go_ret
  exact ⟨rfl, HP.out _ _ HB5.out hp4⟩
set_option maxHeartbeats 2000000 in
set_option maxRecDepth 100000 in
theorem put_ok {w : World} {B h A o : Nat} {cv fv rv ev : Value} (hp : HpAt w B h A cv fv rv ⟨[objB o], [], 1, []⟩) (hbx : Box w o 38 (objC 1 0 false (.pointer none) ev)) (k v v0 : Vt) (fl : Int) (hpl : ∀ w, Calls Tryd.prog 44 #[.int .i64 fl] w fun e w' => e = .returned (.bool true) ∧ w' = w) (res : Bool) (P : World → World → Prop) (hP : ∀ W w', Below w.heap.size w W → P W w' → P w w') (HOW : ∀ W, Below w.heap.size w W → Calls Tryd.prog 23 #[.pointer (some ⟨o, 0, none⟩), valV k] W fun e w' => e = .returned (.tuple #[valV v0, .int .i64 fl, .bool true]) ∧ Below W.heap.size W w')
    (HDF : ∀ W, Below w.heap.size w W → Calls Tryd.prog 25 #[.pointer (some ⟨o, 0, none⟩), valV k, valV v, .int .i64 fl] W fun e w' => e = .returned (.bool res) ∧ P W w') :
    Calls Tryd.prog 20 #[.pointer (some ⟨h, 0, none⟩), .int .i64 1, valV k, valV v] w fun e w' => e = .returned (.bool res) ∧ P w w' := by
  have HOBJ : Veil (∀ W, Below w.heap.size w W → Calls Tryd.prog 15 #[.pointer (some ⟨h, 0, none⟩), .int .i64 1] W fun e w' => e = .returned (.pointer (some ⟨o, 0, none⟩)) ∧ w' = W) := ⟨fun W hb => obj_some (show HpAt W B h A cv fv rv _ from ⟨hp.hb.below hb, hp.ar.on hb, hp.hB⟩) 1 o rfl⟩
  obtain ⟨kb, hkb⟩ : ∃ kb, w.heap.size = kb := ⟨_, rfl⟩
  obtain ⟨vb, hvb⟩ : ∃ vb, kb + 1 = vb := ⟨_, rfl⟩
  have b1 := (Box.new w 45 #[.int .i64 k.1, .int .i64 k.2.1, .string k.2.2]).more (.cells #[.int .i64 v.1, .int .i64 v.2.1, .string v.2.2] 45)
  have b2 := Box.new (w.alloc (.cells #[.int .i64 k.1, .int .i64 k.2.1, .string k.2.2] 45)) 45 #[.int .i64 v.1, .int .i64 v.2.1, .string v.2.2]
  have bb : Below w.heap.size w ((w.alloc (.cells #[.int .i64 k.1, .int .i64 k.2.1, .string k.2.2] 45)).alloc (.cells #[.int .i64 v.1, .int .i64 v.2.1, .string v.2.2] 45)) := ((Below.refl _ _).alloc (Nat.le_refl _) _).alloc (by simp) _
  rw [World.size_alloc] at b2
  obtain ⟨W0, hW0⟩ : ∃ W0, ((w.alloc (.cells #[.int .i64 k.1, .int .i64 k.2.1, .string k.2.2] 45)).alloc (.cells #[.int .i64 v.1, .int .i64 v.2.1, .string v.2.2] 45)) = W0 := ⟨_, rfl⟩
  rw [hW0] at b1 b2 bb
  have HW0 := Veil.mk (And.intro hW0 (And.intro hkb hvb))
  rw [hkb] at b1 b2
  rw [hvb] at b2
  have HB0 := Veil.mk (And.intro bb (And.intro b1 b2))
  have x0 : W0.cell? ⟨kb, 0, none⟩ = some (.int .i64 k.1) := b1.at_ 0
  have x1 : W0.cell? ⟨kb, 1, none⟩ = some (.int .i64 k.2.1) := b1.at_ 1
  have x2 : W0.cell? ⟨kb, 2, none⟩ = some (.string k.2.2) := b1.at_ 2
  have HOW := Veil.mk HOW
  have HDF := Veil.mk HDF
  have HP := Veil.mk hP
  have HBX := Veil.mk (And.intro hbx hp)
  have HPL := Veil.mk hpl
  clear hbx hp b1 b2 bb hW0 hkb hvb hP hpl
  go_enter Tryd.func20, Tryd.ntmps20
  go_upto_region 1 with (fail)
  rw [HW0.out.1, HW0.out.2.1, HW0.out.2.2]
  go_upto_region 5 with (first | (go_at_call 15; ((with_reducible refine (HOBJ.out _ HB0.out.1).mono ?_); rintro e w9 ⟨rfl, h9⟩; subst w9)) | (go_at_call 23; ((with_reducible refine (HOW.out _ HB0.out.1).mono ?_); rintro e w1 ⟨rfl, hb1⟩)))
  have hal : Below w1.heap.size w1 (w1.alloc (.cells #[.int .i64 v0.1, .int .i64 v0.2.1, .string v0.2.2] 45)) := (Below.refl _ _).alloc (Nat.le_refl _) _
  obtain ⟨W2, hW2⟩ : ∃ W2, w1.alloc (.cells #[.int .i64 v0.1, .int .i64 v0.2.1, .string v0.2.2] 45) = W2 := ⟨_, rfl⟩
  rw [hW2] at hal ⊢
  have HB2 : Veil (Below w.heap.size w W2) := ⟨blw2 (blw2 HB0.out.1 hb1) hal⟩
  have HQ2 := Veil.mk (And.intro ((HB0.out.2.1.below hb1).below hal) ((HB0.out.2.2.below hb1).below hal))
  clear x0 x1 x2 hb1 hal hW2 HOW
  have x0 : W2.cell? ⟨kb, 0, none⟩ = some (.int .i64 k.1) := HQ2.out.1.at_ 0
  have x1 : W2.cell? ⟨kb, 1, none⟩ = some (.int .i64 k.2.1) := HQ2.out.1.at_ 1
  have x2 : W2.cell? ⟨kb, 2, none⟩ = some (.string k.2.2) := HQ2.out.1.at_ 2
  have y0 : W2.cell? ⟨vb, 0, none⟩ = some (.int .i64 v.1) := HQ2.out.2.at_ 0
  have y1 : W2.cell? ⟨vb, 1, none⟩ = some (.int .i64 v.2.1) := HQ2.out.2.at_ 1
  have y2 : W2.cell? ⟨vb, 2, none⟩ = some (.string v.2.2) := HQ2.out.2.at_ 2
  go_wp2_with (first | (go_at_call 44; ((with_reducible refine (HPL.out _).mono ?_); rintro e w9 ⟨rfl, h9⟩; subst w9)) | (go_at_call 25; ((with_reducible refine (HDF.out _ HB2.out).mono ?_); rintro e w4 ⟨rfl, hp4⟩)))
  go_ret
  exact ⟨rfl, HP.out _ _ HB2.out hp4⟩
set_option maxHeartbeats 2000000 in
set_option maxRecDepth 100000 in
theorem put_new {w : World} {B h A o : Nat} {cv fv rv ev : Value} (hp : HpAt w B h A cv fv rv ⟨[objB o], [], 1, []⟩) (hbx : Box w o 38 (objC 1 0 false (.pointer none) ev)) (k v v0 : Vt) (res : Bool) (P : World → World → Prop) (hP : ∀ W w', Below w.heap.size w W → P W w' → P w w') (HOW : ∀ W, Below w.heap.size w W → Calls Tryd.prog 23 #[.pointer (some ⟨o, 0, none⟩), valV k] W fun e w' => e = .returned (.tuple #[valV v0, .int .i64 0, .bool false]) ∧ Below W.heap.size W w')
    (HDF : ∀ W, Below w.heap.size w W → Calls Tryd.prog 25 #[.pointer (some ⟨o, 0, none⟩), valV k, valV v, .int .i64 7] W fun e w' => e = .returned (.bool res) ∧ P W w') :
    Calls Tryd.prog 20 #[.pointer (some ⟨h, 0, none⟩), .int .i64 1, valV k, valV v] w fun e w' => e = .returned (.bool res) ∧ P w w' := by
  have HOBJ : Veil (∀ W, Below w.heap.size w W → Calls Tryd.prog 15 #[.pointer (some ⟨h, 0, none⟩), .int .i64 1] W fun e w' => e = .returned (.pointer (some ⟨o, 0, none⟩)) ∧ w' = W) := ⟨fun W hb => obj_some (show HpAt W B h A cv fv rv _ from ⟨hp.hb.below hb, hp.ar.on hb, hp.hB⟩) 1 o rfl⟩
  obtain ⟨kb, hkb⟩ : ∃ kb, w.heap.size = kb := ⟨_, rfl⟩
  obtain ⟨vb, hvb⟩ : ∃ vb, kb + 1 = vb := ⟨_, rfl⟩
  have b1 := (Box.new w 45 #[.int .i64 k.1, .int .i64 k.2.1, .string k.2.2]).more (.cells #[.int .i64 v.1, .int .i64 v.2.1, .string v.2.2] 45)
  have b2 := Box.new (w.alloc (.cells #[.int .i64 k.1, .int .i64 k.2.1, .string k.2.2] 45)) 45 #[.int .i64 v.1, .int .i64 v.2.1, .string v.2.2]
  have bb : Below w.heap.size w ((w.alloc (.cells #[.int .i64 k.1, .int .i64 k.2.1, .string k.2.2] 45)).alloc (.cells #[.int .i64 v.1, .int .i64 v.2.1, .string v.2.2] 45)) := ((Below.refl _ _).alloc (Nat.le_refl _) _).alloc (by simp) _
  rw [World.size_alloc] at b2
  obtain ⟨W0, hW0⟩ : ∃ W0, ((w.alloc (.cells #[.int .i64 k.1, .int .i64 k.2.1, .string k.2.2] 45)).alloc (.cells #[.int .i64 v.1, .int .i64 v.2.1, .string v.2.2] 45)) = W0 := ⟨_, rfl⟩
  rw [hW0] at b1 b2 bb
  have HW0 := Veil.mk (And.intro hW0 (And.intro hkb hvb))
  rw [hkb] at b1 b2
  rw [hvb] at b2
  have HB0 := Veil.mk (And.intro bb (And.intro b1 b2))
  have x0 : W0.cell? ⟨kb, 0, none⟩ = some (.int .i64 k.1) := b1.at_ 0
  have x1 : W0.cell? ⟨kb, 1, none⟩ = some (.int .i64 k.2.1) := b1.at_ 1
  have x2 : W0.cell? ⟨kb, 2, none⟩ = some (.string k.2.2) := b1.at_ 2
  have HOW := Veil.mk HOW
  have HDF := Veil.mk HDF
  have HP := Veil.mk hP
  have HBX := Veil.mk (And.intro hbx hp)
  skip
  clear hbx hp b1 b2 bb hW0 hkb hvb hP 
  go_enter Tryd.func20, Tryd.ntmps20
  go_upto_region 1 with (fail)
  rw [HW0.out.1, HW0.out.2.1, HW0.out.2.2]
  go_upto_region 5 with (first | (go_at_call 15; ((with_reducible refine (HOBJ.out _ HB0.out.1).mono ?_); rintro e w9 ⟨rfl, h9⟩; subst w9)) | (go_at_call 23; ((with_reducible refine (HOW.out _ HB0.out.1).mono ?_); rintro e w1 ⟨rfl, hb1⟩)))
  have hal : Below w1.heap.size w1 (w1.alloc (.cells #[.int .i64 v0.1, .int .i64 v0.2.1, .string v0.2.2] 45)) := (Below.refl _ _).alloc (Nat.le_refl _) _
  obtain ⟨W2, hW2⟩ : ∃ W2, w1.alloc (.cells #[.int .i64 v0.1, .int .i64 v0.2.1, .string v0.2.2] 45) = W2 := ⟨_, rfl⟩
  rw [hW2] at hal ⊢
  have HB2 : Veil (Below w.heap.size w W2) := ⟨blw2 (blw2 HB0.out.1 hb1) hal⟩
  have HQ2 := Veil.mk (And.intro ((HB0.out.2.1.below hb1).below hal) ((HB0.out.2.2.below hb1).below hal))
  clear x0 x1 x2 hb1 hal hW2 HOW
  have x0 : W2.cell? ⟨kb, 0, none⟩ = some (.int .i64 k.1) := HQ2.out.1.at_ 0
  have x1 : W2.cell? ⟨kb, 1, none⟩ = some (.int .i64 k.2.1) := HQ2.out.1.at_ 1
  have x2 : W2.cell? ⟨kb, 2, none⟩ = some (.string k.2.2) := HQ2.out.1.at_ 2
  have y0 : W2.cell? ⟨vb, 0, none⟩ = some (.int .i64 v.1) := HQ2.out.2.at_ 0
  have y1 : W2.cell? ⟨vb, 1, none⟩ = some (.int .i64 v.2.1) := HQ2.out.2.at_ 1
  have y2 : W2.cell? ⟨vb, 2, none⟩ = some (.string v.2.2) := HQ2.out.2.at_ 2
  go_upto_region 7 with (fail)
  clear x0 x1 x2 y0 y1 y2
  obtain ⟨WD, hWD⟩ : ∃ WD, W2.drew = WD := ⟨_, rfl⟩
  have HBD : Veil (Below w.heap.size w WD) := ⟨by rw [← hWD]; exact HB2.out.drew⟩
  have HOB : Veil (Box WD o 38 (objC 1 0 false (.pointer none) ev)) := ⟨HBX.out.1.below HBD.out⟩
  have HKB : Veil (Box WD kb 45 #[.int .i64 k.1, .int .i64 k.2.1, .string k.2.2]) := ⟨by rw [← hWD]; exact HQ2.out.1.drew⟩
  have HVB : Veil (Box WD vb 45 #[.int .i64 v.1, .int .i64 v.2.1, .string v.2.2]) := ⟨by rw [← hWD]; exact HQ2.out.2.drew⟩
  have HFD := Veil.mk (find_zero (show HpAt WD B h A cv fv rv ⟨[objB o], [], 1, []⟩ from ⟨HBX.out.2.hb.below HBD.out, HBX.out.2.ar.on HBD.out, HBX.out.2.hB⟩) k)
  have HWD := Veil.mk hWD
  clear hWD HQ2 HB2
  refine wp_region_chain ([some (· = .pointer (some ⟨h, 0, none⟩)), some (· = .pointer (some ⟨o, 0, none⟩)), some (· = .pointer (some ⟨o, 0, none⟩)), some (· = .pointer (some ⟨o, 1, none⟩)), some (· = .int .i64 0), some (· = valV k), some (· = .tuple #[zeroV, .int .i64 0, .bool false]), some (· = .tuple #[zeroV, .int .i64 0, .bool false]), some (· = zeroV), some (· = .int .i64 0), some (· = .bool false), some (· = .int .i64 0), some (· = .bool false)] : List (Option (Value → Prop))) (LPh [6] (OwSt WD 0 zV)) [some 36, some 37, some 38, some 39, some 40, some 41, some 42, some 35, some 43, some 44, some 45, some 11, some 12] (curV' _ [some 36, some 37, some 38, some 39, some 40, some 41, some 42, some 35, some 43, some 44, some 45, some 11, some 12]) (by kernel_rfl) rfl rfl (puts_cur _ _) (LPh.start (show W2.drew = WD from HWD.out)) ?_ (by kernel_rfl) ?_
  · refine Steps.cons rfl (fun bb aa w' hbs hb0 hbp hI K hK => ?_) ?_
    · obtain ⟨us, hus, ha, hI⟩ := hI
      obtain ⟨u0, u1, u2, u3, u4, u5, u6, u7, u8, u9, u10, u11, u12, rfl⟩ := len13 hus
      have HI := Veil.mk hI
      clear hI
      rw [ha]
      simp only [puts, setAll, List.setIfInBounds_toArray, List.set_cons_zero, List.set_cons_succ]
      go_simp
      exact hK _ _ (chain_step HI.out hus hbs 0 _ (by show 0 < 13; decide) rfl hbp (val_of rfl rfl) (HI.out.ph.step 0 _ (by decide) (by decide)) (by simp only [puts, setAll, List.set_cons_zero, List.set_cons_succ, List.setIfInBounds_toArray]))
    refine Steps.cons rfl (fun bb aa w' hbs hb0 hbp hI K hK => ?_) ?_
    · obtain ⟨us, hus, ha, hI⟩ := hI
      obtain ⟨u0, u1, u2, u3, u4, u5, u6, u7, u8, u9, u10, u11, u12, rfl⟩ := len13 hus
      have HI := Veil.mk hI
      clear hI
      rw [ha]
      simp only [puts, setAll, List.setIfInBounds_toArray, List.set_cons_zero, List.set_cons_succ]
      go_simp
      exact hK _ _ (chain_step HI.out hus hbs 1 _ (by show 1 < 13; decide) rfl hbp (val_of rfl rfl) (HI.out.ph.step 1 _ (by decide) (by decide)) (by simp only [puts, setAll, List.set_cons_zero, List.set_cons_succ, List.setIfInBounds_toArray]))
    refine Steps.cons rfl (fun bb aa w' hbs hb0 hbp hI K hK => ?_) ?_
    · obtain ⟨us, hus, ha, hI⟩ := hI
      obtain ⟨u0, u1, u2, u3, u4, u5, u6, u7, u8, u9, u10, u11, u12, rfl⟩ := len13 hus
      have e1 : u1 = .pointer (some ⟨o, 0, none⟩) := hI.val 1 _ rfl (gen_after 1 (by kernel_rfl) hbp)
      subst e1
      have HI := Veil.mk hI
      clear hI
      rw [ha]
      simp only [puts, setAll, List.setIfInBounds_toArray, List.set_cons_zero, List.set_cons_succ]
      go_simp
      exact hK _ _ (chain_step HI.out hus hbs 2 _ (by show 2 < 13; decide) rfl hbp (val_of rfl rfl) (HI.out.ph.step 2 _ (by decide) (by decide)) (by simp only [puts, setAll, List.set_cons_zero, List.set_cons_succ, List.setIfInBounds_toArray]))
    refine Steps.cons rfl (fun bb aa w' hbs hb0 hbp hI K hK => ?_) ?_
    · obtain ⟨us, hus, ha, hI⟩ := hI
      obtain ⟨u0, u1, u2, u3, u4, u5, u6, u7, u8, u9, u10, u11, u12, rfl⟩ := len13 hus
      have e2 : u2 = .pointer (some ⟨o, 0, none⟩) := hI.val 2 _ rfl (gen_after 2 (by kernel_rfl) hbp)
      subst e2
      have HI := Veil.mk hI
      clear hI
      rw [ha]
      simp only [puts, setAll, List.setIfInBounds_toArray, List.set_cons_zero, List.set_cons_succ]
      go_simp
      exact hK _ _ (chain_step HI.out hus hbs 3 _ (by show 3 < 13; decide) rfl hbp (val_of rfl rfl) (HI.out.ph.step 3 _ (by decide) (by decide)) (by simp only [puts, setAll, List.set_cons_zero, List.set_cons_succ, List.setIfInBounds_toArray]))
    refine Steps.cons rfl (fun bb aa w' hbs hb0 hbp hI K hK => ?_) ?_
    · obtain ⟨us, hus, ha, hI⟩ := hI
      obtain ⟨u0, u1, u2, u3, u4, u5, u6, u7, u8, u9, u10, u11, u12, rfl⟩ := len13 hus
      have e3 : u3 = .pointer (some ⟨o, 1, none⟩) := hI.val 3 _ rfl (gen_after 3 (by kernel_rfl) hbp)
      subst e3
      have h6 := hI.before 6 4 rfl (by kernel_rfl) hb0
      have hst := hI.ph.at_ 0 6 rfl h6 (.inl rfl)
      clear h6
      have c0 : w'.cell? ⟨o, 1, none⟩ = some (.int .i64 0) := by rw [show w' = WD from hst]; exact HOB.out.at_ 1
      have HI := Veil.mk hI
      clear hI
      rw [ha]
      simp only [puts, setAll, List.setIfInBounds_toArray, List.set_cons_zero, List.set_cons_succ]
      go_simp
      exact hK _ _ (chain_step HI.out hus hbs 4 _ (by show 4 < 13; decide) rfl hbp (val_of rfl rfl) (HI.out.ph.step 4 _ (by decide) (by decide)) (by simp only [puts, setAll, List.set_cons_zero, List.set_cons_succ, List.setIfInBounds_toArray]))
    refine Steps.cons rfl (fun bb aa w' hbs hb0 hbp hI K hK => ?_) ?_
    · obtain ⟨us, hus, ha, hI⟩ := hI
      obtain ⟨u0, u1, u2, u3, u4, u5, u6, u7, u8, u9, u10, u11, u12, rfl⟩ := len13 hus
      have h6 := hI.before 6 5 rfl (by kernel_rfl) hb0
      have hst := hI.ph.at_ 0 6 rfl h6 (.inl rfl)
      clear h6
      have HKW : Box w' kb 45 #[.int .i64 k.1, .int .i64 k.2.1, .string k.2.2] := by rw [show w' = WD from hst]; exact HKB.out
      have c0 : w'.cell? ⟨kb, 0, none⟩ = some (.int .i64 k.1) := HKW.at_ 0
      have c1 : w'.cell? ⟨kb, 1, none⟩ = some (.int .i64 k.2.1) := HKW.at_ 1
      have c2 : w'.cell? ⟨kb, 2, none⟩ = some (.string k.2.2) := HKW.at_ 2
      clear HKW
      have HI := Veil.mk hI
      clear hI
      rw [ha]
      simp only [puts, setAll, List.setIfInBounds_toArray, List.set_cons_zero, List.set_cons_succ]
      go_simp
      exact hK _ _ (chain_step HI.out hus hbs 5 _ (by show 5 < 13; decide) rfl hbp (val_of rfl rfl) (HI.out.ph.step 5 _ (by decide) (by decide)) (by simp only [puts, setAll, List.set_cons_zero, List.set_cons_succ, List.setIfInBounds_toArray]))
    refine Steps.cons rfl (fun bb aa w' hbs hb0 hbp hI K hK => ?_) ?_
    · obtain ⟨us, hus, ha, hI⟩ := hI
      obtain ⟨u0, u1, u2, u3, u4, u5, u6, u7, u8, u9, u10, u11, u12, rfl⟩ := len13 hus
      have e0 : u0 = .pointer (some ⟨h, 0, none⟩) := hI.val 0 _ rfl (gen_after 0 (by kernel_rfl) hbp)
      subst e0
      have e4 : u4 = .int .i64 0 := hI.val 4 _ rfl (gen_after 4 (by kernel_rfl) hbp)
      subst e4
      have e5 : u5 = valV k := hI.val 5 _ rfl (gen_after 5 (by kernel_rfl) hbp)
      subst e5
      have hst := hI.ph.at_ 0 6 rfl hb0 (.inl rfl)
      have HST := Veil.mk (show w' = WD from hst)
      have HF2 := HFD.out
      rw [← show w' = WD from hst] at HF2
      have HF3 := Veil.mk HF2
      clear HF2
      have HI := Veil.mk hI
      clear hI
      rw [ha]
      simp only [puts, setAll, List.setIfInBounds_toArray, List.set_cons_zero, List.set_cons_succ]
      go_simp
      go_at_call 26
      refine HF3.out.mono ?_
      rintro e9 w9 ⟨rfl, hb9⟩
      go_simp
      exact hK _ _ (chain_step HI.out hus hbs 6 (.tuple #[zeroV, .int .i64 0, .bool false]) (by show 6 < 13; decide) rfl hbp (val_of rfl rfl) (HI.out.ph.next 0 6 _ rfl hb0 (.inl rfl) (by decide) (by rw [← HST.out]; exact hb9)) (by simp only [puts, setAll, List.set_cons_zero, List.set_cons_succ, List.setIfInBounds_toArray]))
    refine Steps.cons rfl (fun bb aa w' hbs hb0 hbp hI K hK => ?_) ?_
    · obtain ⟨us, hus, ha, hI⟩ := hI
      obtain ⟨u0, u1, u2, u3, u4, u5, u6, u7, u8, u9, u10, u11, u12, rfl⟩ := len13 hus
      have e6 : u6 = .tuple #[zeroV, .int .i64 0, .bool false] := hI.val 6 _ rfl (gen_after 6 (by kernel_rfl) hbp)
      subst e6
      have HI := Veil.mk hI
      clear hI
      rw [ha]
      simp only [puts, setAll, List.setIfInBounds_toArray, List.set_cons_zero, List.set_cons_succ]
      go_simp
      exact hK _ _ (chain_step HI.out hus hbs 7 _ (by show 7 < 13; decide) rfl hbp (val_of rfl rfl) (HI.out.ph.step 7 _ (by decide) (by decide)) (by simp only [puts, setAll, List.set_cons_zero, List.set_cons_succ, List.setIfInBounds_toArray]))
    refine Steps.cons rfl (fun bb aa w' hbs hb0 hbp hI K hK => ?_) ?_
    · obtain ⟨us, hus, ha, hI⟩ := hI
      obtain ⟨u0, u1, u2, u3, u4, u5, u6, u7, u8, u9, u10, u11, u12, rfl⟩ := len13 hus
      have e7 : u7 = .tuple #[zeroV, .int .i64 0, .bool false] := hI.val 7 _ rfl (gen_after 7 (by kernel_rfl) hbp)
      subst e7
      have HI := Veil.mk hI
      clear hI
      rw [ha]
      simp only [puts, setAll, List.setIfInBounds_toArray, List.set_cons_zero, List.set_cons_succ]
      go_simp
      exact hK _ _ (chain_step HI.out hus hbs 8 _ (by show 8 < 13; decide) rfl hbp (val_of rfl rfl) (HI.out.ph.step 8 _ (by decide) (by decide)) (by simp only [puts, setAll, List.set_cons_zero, List.set_cons_succ, List.setIfInBounds_toArray]))
    refine Steps.cons rfl (fun bb aa w' hbs hb0 hbp hI K hK => ?_) ?_
    · obtain ⟨us, hus, ha, hI⟩ := hI
      obtain ⟨u0, u1, u2, u3, u4, u5, u6, u7, u8, u9, u10, u11, u12, rfl⟩ := len13 hus
      have e7 : u7 = .tuple #[zeroV, .int .i64 0, .bool false] := hI.val 7 _ rfl (gen_after 7 (by kernel_rfl) hbp)
      subst e7
      have HI := Veil.mk hI
      clear hI
      rw [ha]
      simp only [puts, setAll, List.setIfInBounds_toArray, List.set_cons_zero, List.set_cons_succ]
      go_simp
      exact hK _ _ (chain_step HI.out hus hbs 9 _ (by show 9 < 13; decide) rfl hbp (val_of rfl rfl) (HI.out.ph.step 9 _ (by decide) (by decide)) (by simp only [puts, setAll, List.set_cons_zero, List.set_cons_succ, List.setIfInBounds_toArray]))
    refine Steps.cons rfl (fun bb aa w' hbs hb0 hbp hI K hK => ?_) ?_
    · obtain ⟨us, hus, ha, hI⟩ := hI
      obtain ⟨u0, u1, u2, u3, u4, u5, u6, u7, u8, u9, u10, u11, u12, rfl⟩ := len13 hus
      have e7 : u7 = .tuple #[zeroV, .int .i64 0, .bool false] := hI.val 7 _ rfl (gen_after 7 (by kernel_rfl) hbp)
      subst e7
      have HI := Veil.mk hI
      clear hI
      rw [ha]
      simp only [puts, setAll, List.setIfInBounds_toArray, List.set_cons_zero, List.set_cons_succ]
      go_simp
      exact hK _ _ (chain_step HI.out hus hbs 10 _ (by show 10 < 13; decide) rfl hbp (val_of rfl rfl) (HI.out.ph.step 10 _ (by decide) (by decide)) (by simp only [puts, setAll, List.set_cons_zero, List.set_cons_succ, List.setIfInBounds_toArray]))
    refine Steps.cons rfl (fun bb aa w' hbs hb0 hbp hI K hK => ?_) ?_
    · obtain ⟨us, hus, ha, hI⟩ := hI
      obtain ⟨u0, u1, u2, u3, u4, u5, u6, u7, u8, u9, u10, u11, u12, rfl⟩ := len13 hus
      have e9 : u9 = .int .i64 0 := hI.val 9 _ rfl (gen_after 9 (by kernel_rfl) hbp)
      subst e9
      have HI := Veil.mk hI
      clear hI
      rw [ha]
      simp only [puts, setAll, List.setIfInBounds_toArray, List.set_cons_zero, List.set_cons_succ]
      go_simp
      exact hK _ _ (chain_step HI.out hus hbs 11 _ (by show 11 < 13; decide) rfl hbp (val_of rfl rfl) (HI.out.ph.step 11 _ (by decide) (by decide)) (by simp only [puts, setAll, List.set_cons_zero, List.set_cons_succ, List.setIfInBounds_toArray]))
    refine Steps.cons rfl (fun bb aa w' hbs hb0 hbp hI K hK => ?_) ?_
    · obtain ⟨us, hus, ha, hI⟩ := hI
      obtain ⟨u0, u1, u2, u3, u4, u5, u6, u7, u8, u9, u10, u11, u12, rfl⟩ := len13 hus
      have e10 : u10 = .bool false := hI.val 10 _ rfl (gen_after 10 (by kernel_rfl) hbp)
      subst e10
      have HI := Veil.mk hI
      clear hI
      rw [ha]
      simp only [puts, setAll, List.setIfInBounds_toArray, List.set_cons_zero, List.set_cons_succ]
      go_simp
      exact hK _ _ (chain_step HI.out hus hbs 12 _ (by show 12 < 13; decide) rfl hbp (val_of rfl rfl) (HI.out.ph.step 12 _ (by decide) (by decide)) (by simp only [puts, setAll, List.set_cons_zero, List.set_cons_succ, List.setIfInBounds_toArray]))
    exact Steps.nil
  · intro us w9 hus dd hD2 hJ
    obtain ⟨p0, p1, p2, p3, p4, p5, p6, p7, p8, p9, p10, p11, p12, rfl⟩ := len13 hus
    have q1 := hJ.ph.all (fun c hc => hD2 c (by
      have : c = 6 := by simpa using hc
      show c < 13
      omega))
    replace q1 : Below WD.heap.size WD w9 := q1
    have e11 : p11 = .int .i64 0 := hJ.val 11 _ rfl (hD2 11 (by show 11 < 13; decide))
    have e12 : p12 = .bool false := hJ.val 12 _ rfl (hD2 12 (by show 12 < 13; decide))
    subst e11 e12
    have HB9 : Veil (Below w.heap.size w w9) := ⟨HBD.out.trans (q1.mono HBD.out.size)⟩
    have q9 := And.intro (HKB.out.below q1) (HVB.out.below q1)
    clear hJ hD2 q1
    have x0 : w9.cell? ⟨kb, 0, none⟩ = some (.int .i64 k.1) := q9.1.at_ 0
    have x1 : w9.cell? ⟨kb, 1, none⟩ = some (.int .i64 k.2.1) := q9.1.at_ 1
    have x2 : w9.cell? ⟨kb, 2, none⟩ = some (.string k.2.2) := q9.1.at_ 2
    have y0 : w9.cell? ⟨vb, 0, none⟩ = some (.int .i64 v.1) := q9.2.at_ 0
    have y1 : w9.cell? ⟨vb, 1, none⟩ = some (.int .i64 v.2.1) := q9.2.at_ 1
    have y2 : w9.cell? ⟨vb, 2, none⟩ = some (.string v.2.2) := q9.2.at_ 2
    clear q9
    simp only [puts, setAll, List.set_cons_zero, List.set_cons_succ, List.setIfInBounds_toArray]
    go_wp2_with (go_at_call 25; ((with_reducible refine (HDF.out _ HB9.out).mono ?_); rintro e w4 ⟨rfl, hp4⟩))
    go_ret
    exact ⟨rfl, HP.out _ _ HB9.out hp4⟩
end Go.Proofs.YtbeapojjbgkalaaDoor
